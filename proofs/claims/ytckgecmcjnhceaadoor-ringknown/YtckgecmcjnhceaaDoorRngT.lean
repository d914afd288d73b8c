/- The document's rings: All; its calls over an arena. -/
import Derived.Test.YtckgecmcjnhceaaDoorRngS
namespace Go.Proofs.YtckgecmcjnhceaaDoor
set_option linter.ambiguousOpen false
open Go.RowKit
namespace Rg
open An Ft Lv
set_option linter.unusedSimpArgs false
set_option linter.unusedVariables false

theorem goes_no (S : List Slt) (last i : Int) (f : Nat) (h : ¬ there i) : goes S last f i = [] := by
  cases f with
  | zero => rfl
  | succ f => unfold goes; rw [if_neg h]

theorem goes_last (S : List Slt) (last i : Int) (f : Nat) (h : there i) (he : i = last) : goes S last (f + 1) i = [i.toNat] := by
  unfold goes
  rw [if_pos h, if_pos he]

theorem goes_more (S : List Slt) (last i : Int) (f : Nat) (h : there i) (he : i ≠ last) : goes S last (f + 1) i = i.toNat :: goes S last f (nx S i) := by
  conv => lhs; unfold goes
  rw [if_pos h, if_neg he]

set_option maxRecDepth 100000 in
set_option maxHeartbeats 2000000 in
theorem all_ref (base : Nat) (w : World) (g b cap : Nat) (fv : Value) (A : Arn) (last : Int) (h : RAn base w g (.slice (some ⟨b, 0, none⟩) 32 cap) fv A) (hl : A.sl.length = 32) (hc : 32 ≤ cap ∧ cap ≤ 9223372036854775807) :
    Calls Tryd.prog 8 #[ptr g, nu last] w fun e w' => ∃ v, e = .returned v ∧ w'.ownsRow w.heap.size 3 1 v (allL A.sl last).length ((allL A.sl last).map nun) ∧ Below w.heap.size w w' := by
  obtain ⟨i0, ji, hz0, hz1, hz2⟩ := info_parts info_int
  have HA := Hid.mk' h
  have cT : Hid (∀ j wx, _) := fun j wx => there_ref j wx
  obtain ⟨L, hL⟩ : ∃ L, allL A.sl last = L := ⟨_, rfl⟩
  rw [hL]
  obtain ⟨hc1, hc2⟩ := hc
  have c1 := Hid.mk' (cT.out last w)
  by_cases ht : there last
  · rw [decide_eq_true ht] at c1
    have hL' : L = goes A.sl last 32 (nx A.sl last) := by rw [← hL, allL, if_pos ht]
    obtain ⟨k0, rfl⟩ : ∃ k0 : Nat, last = (k0 : Int) := ⟨last.toNat, by omega⟩
    have q0 := h.cells.1
    obtain ⟨_, q1, _⟩ := RAn.linkAt h hl k0 (by omega)
    obtain ⟨f0, hf0⟩ : ∃ f0, nx A.sl k0 = f0 := ⟨_, rfl⟩
    rw [hf0] at q1 hL'
    have HL' := Hid.mk' hL'
    have hkI : (k0 : Int) < 32 := by omega
    have HR : Hid (∀ wx, Below w.heap.size w wx → wx.cell? ⟨g, 0, none⟩ = some (.slice (some ⟨b, 0, none⟩) 32 cap) ∧ ∀ j : Nat, j < 32 → wx.cell? ⟨b, j * 17 + 4, none⟩ = some (nu (nx A.sl j))) := fun wx hb => by
      have hx := HA.out.below hb
      exact ⟨hx.cells.1, fun j hj => (RAn.linkAt hx hl j hj).2.1⟩
    clear h hl hL hL' ht hf0
    go_enter Tryd.func8, Tryd.ntmps8
    go_wp2_with fail
    refine c1.out.mono ?_
    rintro e w1 ⟨rfl, hw1⟩
    subst w1
    go_wp2_with fail
    clear q0 q1 c1
    go_loopw [5, 6, 7] (fun lv iv kv wr => ∃ (pre : List Nat) (i : Int) (k : Nat) (a : Option Addr) (c : Nat), k ≤ 32 ∧ lv = .slice a k c ∧ iv = nu i ∧ kv = nun k ∧ Hid (pre.length = k) ∧ Hid (L = pre ++ goes A.sl k0 (32 - k) i) ∧ Hid (wr.ownsRow w.heap.size 3 1 (.slice a k c) k (pre.map nun)) ∧ Hid (Below w.heap.size w wr)) (fun _ _ kv _ => 32 - (intOf kv).toNat)
    case atStart => exact ⟨[], f0, 0, none, 0, by omega, rfl, rfl, rfl, rfl, HL', World.ownsRow_nil _ _ _ _, Below.refl _ _⟩
    case round =>
      obtain ⟨pre, i, k, a, c, hk, rfl, rfl, rfl, HP, HG, HO, HB⟩ := hrel
      by_cases hlt : k < 32
      · have hkI2 : (k : Int) < 32 := by omega
        have c2 := Hid.mk' (cT.out i wr)
        by_cases hit : there i
        · rw [decide_eq_true hit] at c2
          obtain ⟨j, rfl⟩ : ∃ j : Nat, i = (j : Int) := ⟨i.toNat, by omega⟩
          have hj3 : j < 32 := by omega
          have hjI : (j : Int) < 32 := by omega
          have HO1 : Hid ((wr.alloc (.cells #[nun j] 3)).ownsRow w.heap.size 3 1 (.slice a k c) k (pre.map nun)) := HO.out.alloc _
          have HB1 : Hid (Below w.heap.size w (wr.alloc (.cells #[nun j] 3))) := HB.out.alloc HB.out.size _
          by_cases he : (j : Int) = k0
          · have hb : ((j : Int) == (k0 : Int)) = true := by simpa using he
            have HL2 : Hid (L = pre ++ [j]) := by
              show _ = _
              rw [HG.out, show 32 - k = (31 - k) + 1 by omega, goes_last A.sl k0 j _ hit he, Int.toNat_natCast]
            clear he hit HG HO
            go_wp2_with (first | (go_at_call 21; refine c2.out.mono ?_; rintro e w2 ⟨rfl, hw2⟩; subst w2) | (at_builtin; refine Nm.wpList_append_keep _ rfl _ _ 30 rfl w.heap.size 3 i0 (.int .i64 0) 1 8 Tryd.underlying30 ji hz0 hz1 hz2 rfl (by decide) _ k _ rfl HO1.out ⟨wr.heap.size, 0, none⟩ 1 1 [nun j] rfl rfl (cell_one_new _ _ _) (by simp [Value.oneCell']) (by unfold maxLen; omega) (by omega) HB1.out.size (by decide) ?_; intro v4 w4 hg4; obtain ⟨ho4, hgr4, _, _⟩ := hg4; obtain ⟨a4, c4, rfl, _⟩ := Nm.own_shape ho4; have HO4 := Hid.mk' ho4; have HB4 : Hid (Below w.heap.size w w4) := (HB1.out.grown hgr4 HB1.out.size (fun r e => (HO1.out.lt r e).1)); clear ho4 hgr4) | fail)
            go_ret
            refine ⟨_, rfl, ?_, HB4.out⟩
            have := HO4.out
            rw [HL2.out, List.length_append, HP.out, List.map_append]
            exact this
          · have hb : ((j : Int) == (k0 : Int)) = false := by simpa using he
            have HL2 : Hid (L = (pre ++ [j]) ++ goes A.sl k0 (32 - (k + 1)) (nx A.sl j)) := by
              show _ = _
              rw [HG.out, show 32 - k = (32 - (k + 1)) + 1 by omega, goes_more A.sl k0 j _ hit he, Int.toNat_natCast, List.append_assoc]
              rfl
            have HP2 : Hid ((pre ++ [j]).length = k + 1) := by show _ = _; rw [List.length_append, HP.out]; rfl
            clear he hit HG HO
            go_wp2_with (first | (go_at_call 21; refine c2.out.mono ?_; rintro e w2 ⟨rfl, hw2⟩; subst w2) | (at_builtin; refine Nm.wpList_append_keep _ rfl _ _ 30 rfl w.heap.size 3 i0 (.int .i64 0) 1 8 Tryd.underlying30 ji hz0 hz1 hz2 rfl (by decide) _ k _ rfl HO1.out ⟨wr.heap.size, 0, none⟩ 1 1 [nun j] rfl rfl (cell_one_new _ _ _) (by simp [Value.oneCell']) (by unfold maxLen; omega) (by omega) HB1.out.size (by decide) ?_; intro v4 w4 hg4; obtain ⟨ho4, hgr4, _, _⟩ := hg4; obtain ⟨a4, c4, rfl, _⟩ := Nm.own_shape ho4; have HO4 := Hid.mk' ho4; have HB4 : Hid (Below w.heap.size w w4) := (HB1.out.grown hgr4 HB1.out.size (fun r e => (HO1.out.lt r e).1)); have z0 := (HR.out w4 HB4.out).1; have z1 := (HR.out w4 HB4.out).2 j hj3; clear ho4 hgr4) | fail)
            go_roundw
            case rel => exact ⟨pre ++ [j], nx A.sl j, k + 1, a4, c4, by omega, rfl, rfl, by go_num, HP2, HL2, by rw [List.map_append]; exact HO4, HB4⟩
            case measure => simp [intOf]; omega
        · rw [decide_eq_false hit] at c2
          have HL2 : Hid (L = pre) := by
            show _ = _
            rw [HG.out, goes_no A.sl k0 i _ hit, List.append_nil]
          clear hit HG
          go_wp2_with (first | (go_at_call 21; refine c2.out.mono ?_; rintro e w2 ⟨rfl, hw2⟩; subst w2) | fail)
          go_ret
          refine ⟨_, rfl, ?_, HB.out⟩
          rw [HL2.out, HP.out]
          exact HO.out
      · obtain rfl : k = 32 := by omega
        have HL2 : Hid (L = pre) := by
          show _ = _
          rw [HG.out]
          simp [goes]
        clear HG
        go_wp2
        go_ret
        refine ⟨_, rfl, ?_, HB.out⟩
        rw [HL2.out, HP.out]
        exact HO.out
  · rw [decide_eq_false ht] at c1
    have hL' : Hid (L = []) := by show _ = _; rw [← hL, allL, if_neg ht]
    clear h hl hL ht
    go_enter Tryd.func8, Tryd.ntmps8
    go_wp2_with fail
    refine c1.out.mono ?_
    rintro e w1 ⟨rfl, hw1⟩
    subst w1
    go_wp2
    go_ret
    refine ⟨_, rfl, ?_, Below.refl _ _⟩
    rw [hL'.out]
    exact World.ownsRow_nil _ _ _ _

/-- The shape of an arena of the document's. -/
theorem RepA.open {base : Nat} {w : World} {g : Nat} {F : Nat → Prop} {A : Arn} (h : RepA base w g F A) (hl : A.sl.length = 32) : ∃ b cap fv, RAn base w g (.slice (some ⟨b, 0, none⟩) 32 cap) fv A ∧ (32 ≤ cap ∧ cap ≤ 9223372036854775807) ∧ F = rfp g (.slice (some ⟨b, 0, none⟩) 32 cap) fv ∧ base ≤ w.heap.size := by
  obtain ⟨sv, fv, h1, h2, h3⟩ := h
  obtain ⟨b, cap, rfl, hc1, hc2, _, _⟩ := h1.slot hl 0 (by omega)
  unfold maxLen at hc2
  exact ⟨b, cap, fv, h1, ⟨hc1, by omega⟩, h2, h3⟩

theorem leftA_links {base : Nat} {w w' : World} {g b cap : Nat} {fv : Value} {A : Arn} (h : RAn base w' g (.slice (some ⟨b, 0, none⟩) 32 cap) fv A) (hb : base ≤ w.heap.size) (hk : Keep (fun j => j = b) w w') : LeftA base w w' g (rfp g (.slice (some ⟨b, 0, none⟩) 32 cap) fv) A :=
  leftA_self h hb (hk.weaken (fun k _ e => .inr (.inl (by rw [e]; rfl))))

theorem push_r (base : Nat) (w : World) (g : Nat) (F : Nat → Prop) (A : Arn) (last i : Int) (h : RepA base w g F A) (hl : A.sl.length = 32) :
    Calls Tryd.prog 32 #[ptr g, nu last, nu i] w fun e w' => e = .returned (.tuple #[nu (push A.sl last i).ans, nun (push A.sl last i).no, nu (push A.sl last i).pl]) ∧ LeftA base w w' g F ⟨(push A.sl last i).sl, A.fr, A.wr⟩ := by
  obtain ⟨b, cap, fv, h1, hc, rfl, h3⟩ := RepA.open h hl
  refine (push_ref base w g b cap fv A last i h1 hl hc).mono ?_
  rintro e w' ⟨rfl, h4, h5⟩
  exact ⟨rfl, leftA_links h4 h3 h5⟩

theorem drop_r (base : Nat) (w : World) (g : Nat) (F : Nat → Prop) (A : Arn) (last i : Int) (h : RepA base w g F A) (hl : A.sl.length = 32) :
    Calls Tryd.prog 28 #[ptr g, nu last, nu i] w fun e w' => e = .returned (.tuple #[nu (drop A.sl last i).ans, nun (drop A.sl last i).no, nu (drop A.sl last i).pl]) ∧ LeftA base w w' g F ⟨(drop A.sl last i).sl, A.fr, A.wr⟩ := by
  obtain ⟨b, cap, fv, h1, hc, rfl, h3⟩ := RepA.open h hl
  refine (drop_ref base w g b cap fv A last i h1 hl hc).mono ?_
  rintro e w' ⟨rfl, h4, h5⟩
  exact ⟨rfl, leftA_links h4 h3 h5⟩

theorem splice_r (base : Nat) (w : World) (g : Nat) (F : Nat → Prop) (A : Arn) (one two : Int) (h : RepA base w g F A) (hl : A.sl.length = 32) :
    Calls Tryd.prog 30 #[ptr g, nu one, nu two] w fun e w' => e = .returned (.tuple #[nu (splice A.sl one two).ans, nun (splice A.sl one two).no, nu (splice A.sl one two).pl]) ∧ LeftA base w w' g F ⟨(splice A.sl one two).sl, A.fr, A.wr⟩ := by
  obtain ⟨b, cap, fv, h1, hc, rfl, h3⟩ := RepA.open h hl
  refine (splice_ref base w g b cap fv A one two h1 hl hc).mono ?_
  rintro e w' ⟨rfl, h4, h5⟩
  exact ⟨rfl, leftA_links h4 h3 h5⟩

theorem all_r (base : Nat) (w : World) (g : Nat) (F : Nat → Prop) (A : Arn) (last : Int) (h : RepA base w g F A) (hl : A.sl.length = 32) :
    Calls Tryd.prog 8 #[ptr g, nu last] w fun e w' => ∃ v, e = .returned v ∧ w'.ownsRow w.heap.size 3 1 v (allL A.sl last).length ((allL A.sl last).map nun) ∧ Below w.heap.size w w' := by
  obtain ⟨b, cap, fv, h1, hc, rfl, h3⟩ := RepA.open h hl
  exact all_ref base w g b cap fv A last h1 hl hc
end Rg
end Go.Proofs.YtckgecmcjnhceaaDoor
