/- One act: Place, Free. -/
import Derived.Test.YtalpbciceogjlaaDoorArnD
namespace Go.Proofs.YtalpbciceogjlaaDoor
set_option linter.ambiguousOpen false
open Go.RowKit
namespace An
open Ft Lv
set_option linter.unusedSimpArgs false
set_option linter.unusedVariables false

set_option maxRecDepth 100000 in
set_option maxHeartbeats 8000000 in
theorem does_place {Rep : World → Nat → (Nat → Prop) → Arn → Prop} (H : KeepC Rep) (CG : GetC Rep) (CP : PutC Rep) (CT : TakeC Rep) (CL : PlaceC Rep) (CX : FreeC Rep) (CF : FreesC Rep) (CW : WritesC Rep) (base : Nat) (w0 w : World) (p g : Nat) (F G : Nat → Prop) (A : Arn) (k n : Int) (s : Slt)
    (hP : Pr Rep (RepA base) w0 w p g F G A A) (hwr : A.wr ≤ 999999999) (hE : Er.Handle w0) (hk : -9223372036854775808 ≤ k ∧ k ≤ 9223372036854775807) (hn : -9223372036854775808 ≤ n ∧ n ≤ 9223372036854775807) (hm : k % 7 = ((4 : Nat) : Int)) :
    Calls Tryd.prog 8 #[ptr p, ptr g, actV k n s] w fun e w' => e = .returned (.bool true) ∧ ∃ F' G', Dn Rep (RepA base) w0 w w' p g F G F' G' (step A k n s) (step A k n s) := by
  have HR := KeepC.refA base
  have hB0 : Below w.heap.size w (w.alloc (.cells (actL k n s).toArray 38)) := (Below.refl _ _).alloc (Nat.le_refl _) _
  have hA0 : LoneA (w.alloc (.cells (actL k n s).toArray 38)) w.heap.size k n s := heap_alloc_new _ _
  have kk0 := hA0.cells.1
  obtain ⟨W0, hW0⟩ : ∃ W0, w.alloc (.cells (actL k n s).toArray 38) = W0 := ⟨_, rfl⟩
  rw [hW0] at hB0 hA0
  have HW0 := Hid.mk' hW0
  have hD0 : Dn Rep (RepA base) w0 W0 W0 p g F G F G A A := Dn.start (hP.below H HR hB0)
  have hXF : ¬ F w.heap.size ∧ ¬ G w.heap.size := ⟨fun e => by have := H.lt hP.rep _ e; omega, fun e => by have := HR.lt hP.ref _ e; omega⟩
  have hact : Hid (∀ w' F' G' A1 A2, Dn Rep (RepA base) w0 W0 w' p g F G F' G' A1 A2 → LoneA w' w.heap.size k n s) := fun w' F' G' A1 A2 h => h.act hA0 hXF
  have hout : Hid (∀ w' F' G' A', Dn Rep (RepA base) w0 W0 w' p g F G F' G' A' A' → Dn Rep (RepA base) w0 w w' p g F G F' G' A' A') := fun w' F' G' A' h => h.from hB0
  have cK : Hid (∀ wx, Calls Tryd.prog 7 #[nu k, nu 7] wx fun e w' => e = .returned (nu (k % 7)) ∧ w' = wx) := fun wx => pick_any k 7 wx (by decide) (by decide) hk
  have hHan : Hid (∀ w', Below w0.heap.size w0 w' → Er.Handle w') := fun w' hb => hE.below hb
  have hcs := fun (w' : World) (h : LoneA w' w.heap.size k n s) => h.cells
  obtain ⟨m, hme⟩ : ∃ m : Nat, m = 4 := ⟨_, rfl⟩
  rw [← hme] at hm
  have hst : step A k n s = if m = 1 then (A.put n s).2 else if m = 2 ∨ m = 3 then A.take.2.2 else if m = 4 then (A.place n).2 else if m = 5 then (A.free n).2 else A := by
    unfold step
    rw [hm]
    congr 1
    · exact propext ⟨fun h => by omega, fun h => by omega⟩
    · congr 1
      · exact propext ⟨fun h => by omega, fun h => by omega⟩
      · congr 1
        · exact propext ⟨fun h => by omega, fun h => by omega⟩
        · congr 1
          exact propext ⟨fun h => by omega, fun h => by omega⟩
  rw [hm] at cK
  have HD0 := Hid.mk' hD0
  have hA0c := hA0.cells
  clear hP hE hk hW0 hB0 hD0 hm hXF
  subst hme
  rw [show step A k n s = (A.place n).2 from hst] at *
  have C1 : Hid (∀ wx, Below W0.heap.size W0 wx → Calls Tryd.prog 22 #[ptr p, nu n] wx fun e w' => e = .returned (errE (A.place n).1) ∧ LoneA w' w.heap.size k n s ∧ Hid (∃ F', Dn Rep (RepA base) w0 W0 w' p g F G F' G (A.place n).2 A)) := fun wx hb => by
    have hD := HD0.out.below H HR hb
    refine (CL wx p F A n hD.pr.rep hD.pr.good1 hn).mono ?_
    rintro e w' ⟨rfl, hl⟩
    obtain ⟨F', h'⟩ := hD.turn1 HR hl (hD.pr.good1.place n)
    exact ⟨rfl, hact.out _ _ _ _ _ h', F', h'⟩
  have C2 : Hid (∀ wx, Hid (∃ F', Dn Rep (RepA base) w0 W0 wx p g F G F' G (A.place n).2 A) → Calls Tryd.prog 23 #[ptr g, nu n] wx fun e w' => e = .returned (nun (A.place n).1) ∧ LoneA w' w.heap.size k n s ∧ Hid (∃ F' G', Dn Rep (RepA base) w0 W0 w' p g F G F' G' (A.place n).2 (A.place n).2)) := fun wx hq => by
    obtain ⟨F', hD⟩ := hq.out
    refine (place_r base wx g G A n hD.pr.ref hD.pr.good2).mono ?_
    rintro e w' ⟨rfl, hl⟩
    obtain ⟨G', h'⟩ := hD.turn2 H hl (hD.pr.good2.place n)
    exact ⟨rfl, hact.out _ _ _ _ _ h', F', G', h'⟩
  have C3 : Hid (∀ wx, Hid (∃ F' G', Dn Rep (RepA base) w0 W0 wx p g F G F' G' (A.place n).2 (A.place n).2) → Calls Tryd.prog 17 #[errE (A.place n).1, nun (A.place n).1] wx fun e w' => e = .returned (.bool true) ∧ LoneA w' w.heap.size k n s ∧ Hid (∃ F' G', Dn Rep (RepA base) w0 W0 w' p g F G F' G' (A.place n).2 (A.place n).2)) := fun wx hq => by
    obtain ⟨F', G', hD⟩ := hq.out
    refine (plainA (A.place n).1 (place_le A n) wx (hHan.out wx hD.pr.bel)).mono ?_
    rintro e w' ⟨rfl, hb⟩
    have h' := hD.below H HR hb
    exact ⟨rfl, hact.out _ _ _ _ _ h', F', G', h'⟩
  generalize (A.place n).1 = c at *
  generalize (A.place n).2 = A' at *
  have HH := Hid.mk' H
  clear H CG CP CT CL CX CF CW HR hst hwr HD0 hn
  go_enter Tryd.func8, Tryd.ntmps8
  go_wp2_with fail
  refine (cK.out _).mono ?_
  rintro e w9 ⟨rfl, hw9⟩
  rw [HW0.out] at hw9
  subst w9
  clear cK kk0
  go_wp2_with fail
  go_region_held3 (fun w' => LoneA w' w.heap.size k n s) (first | assumption | exact hA0 | go_keep) (first | (go_at_call 22; with_reducible refine (C1.out _ ?hb).mono ?_; (case hb => (first | exact Below.refl _ _ | exact (Below.refl _ _).drew | fail)); rintro e w1 ⟨rfl, hS1, hQ1⟩) | (go_at_call 23; with_reducible refine (C2.out _ hQ1).mono ?_; rintro e w2 ⟨rfl, hS2, hQ2⟩) | (go_at_call 17; with_reducible refine (C3.out _ hQ2).mono ?_; rintro e w3 ⟨rfl, hS3, hQ3⟩) | fail)
  clear hS1 hS2 hS3 C1 C2 C3
  go_wp2
  go_ret
  obtain ⟨F', G', h'⟩ := hQ3.out
  exact ⟨rfl, F', G', hout.out _ _ _ _ h'⟩

set_option maxRecDepth 100000 in
set_option maxHeartbeats 8000000 in
theorem does_free {Rep : World → Nat → (Nat → Prop) → Arn → Prop} (H : KeepC Rep) (CG : GetC Rep) (CP : PutC Rep) (CT : TakeC Rep) (CL : PlaceC Rep) (CX : FreeC Rep) (CF : FreesC Rep) (CW : WritesC Rep) (base : Nat) (w0 w : World) (p g : Nat) (F G : Nat → Prop) (A : Arn) (k n : Int) (s : Slt)
    (hP : Pr Rep (RepA base) w0 w p g F G A A) (hwr : A.wr ≤ 999999999) (hE : Er.Handle w0) (hk : -9223372036854775808 ≤ k ∧ k ≤ 9223372036854775807) (hn : -9223372036854775808 ≤ n ∧ n ≤ 9223372036854775807) (hm : k % 7 = ((5 : Nat) : Int)) :
    Calls Tryd.prog 8 #[ptr p, ptr g, actV k n s] w fun e w' => e = .returned (.bool true) ∧ ∃ F' G', Dn Rep (RepA base) w0 w w' p g F G F' G' (step A k n s) (step A k n s) := by
  have HR := KeepC.refA base
  have hB0 : Below w.heap.size w (w.alloc (.cells (actL k n s).toArray 38)) := (Below.refl _ _).alloc (Nat.le_refl _) _
  have hA0 : LoneA (w.alloc (.cells (actL k n s).toArray 38)) w.heap.size k n s := heap_alloc_new _ _
  have kk0 := hA0.cells.1
  obtain ⟨W0, hW0⟩ : ∃ W0, w.alloc (.cells (actL k n s).toArray 38) = W0 := ⟨_, rfl⟩
  rw [hW0] at hB0 hA0
  have HW0 := Hid.mk' hW0
  have hD0 : Dn Rep (RepA base) w0 W0 W0 p g F G F G A A := Dn.start (hP.below H HR hB0)
  have hXF : ¬ F w.heap.size ∧ ¬ G w.heap.size := ⟨fun e => by have := H.lt hP.rep _ e; omega, fun e => by have := HR.lt hP.ref _ e; omega⟩
  have hact : Hid (∀ w' F' G' A1 A2, Dn Rep (RepA base) w0 W0 w' p g F G F' G' A1 A2 → LoneA w' w.heap.size k n s) := fun w' F' G' A1 A2 h => h.act hA0 hXF
  have hout : Hid (∀ w' F' G' A', Dn Rep (RepA base) w0 W0 w' p g F G F' G' A' A' → Dn Rep (RepA base) w0 w w' p g F G F' G' A' A') := fun w' F' G' A' h => h.from hB0
  have cK : Hid (∀ wx, Calls Tryd.prog 7 #[nu k, nu 7] wx fun e w' => e = .returned (nu (k % 7)) ∧ w' = wx) := fun wx => pick_any k 7 wx (by decide) (by decide) hk
  have hHan : Hid (∀ w', Below w0.heap.size w0 w' → Er.Handle w') := fun w' hb => hE.below hb
  have hcs := fun (w' : World) (h : LoneA w' w.heap.size k n s) => h.cells
  obtain ⟨m, hme⟩ : ∃ m : Nat, m = 5 := ⟨_, rfl⟩
  rw [← hme] at hm
  have hst : step A k n s = if m = 1 then (A.put n s).2 else if m = 2 ∨ m = 3 then A.take.2.2 else if m = 4 then (A.place n).2 else if m = 5 then (A.free n).2 else A := by
    unfold step
    rw [hm]
    congr 1
    · exact propext ⟨fun h => by omega, fun h => by omega⟩
    · congr 1
      · exact propext ⟨fun h => by omega, fun h => by omega⟩
      · congr 1
        · exact propext ⟨fun h => by omega, fun h => by omega⟩
        · congr 1
          exact propext ⟨fun h => by omega, fun h => by omega⟩
  rw [hm] at cK
  have HD0 := Hid.mk' hD0
  have hA0c := hA0.cells
  clear hP hE hk hW0 hB0 hD0 hm hXF
  subst hme
  rw [show step A k n s = (A.free n).2 from hst] at *
  have C1 : Hid (∀ wx, Below W0.heap.size W0 wx → Calls Tryd.prog 24 #[ptr p, nu n] wx fun e w' => e = .returned (errE (A.free n).1) ∧ LoneA w' w.heap.size k n s ∧ Hid (∃ F', Dn Rep (RepA base) w0 W0 w' p g F G F' G (A.free n).2 A)) := fun wx hb => by
    have hD := HD0.out.below H HR hb
    refine (CX wx p F A n hD.pr.rep hD.pr.good1 (by omega) hn).mono ?_
    rintro e w' ⟨rfl, hl⟩
    obtain ⟨F', h'⟩ := hD.turn1 HR hl (hD.pr.good1.free n)
    exact ⟨rfl, hact.out _ _ _ _ _ h', F', h'⟩
  have C2 : Hid (∀ wx, Hid (∃ F', Dn Rep (RepA base) w0 W0 wx p g F G F' G (A.free n).2 A) → Calls Tryd.prog 25 #[ptr g, nu n] wx fun e w' => e = .returned (nun (A.free n).1) ∧ LoneA w' w.heap.size k n s ∧ Hid (∃ F' G', Dn Rep (RepA base) w0 W0 w' p g F G F' G' (A.free n).2 (A.free n).2)) := fun wx hq => by
    obtain ⟨F', hD⟩ := hq.out
    refine (give_r base wx g G A n hD.pr.ref hD.pr.good2 (by omega)).mono ?_
    rintro e w' ⟨rfl, hl⟩
    obtain ⟨G', h'⟩ := hD.turn2 H hl (hD.pr.good2.free n)
    exact ⟨rfl, hact.out _ _ _ _ _ h', F', G', h'⟩
  have C3 : Hid (∀ wx, Hid (∃ F' G', Dn Rep (RepA base) w0 W0 wx p g F G F' G' (A.free n).2 (A.free n).2) → Calls Tryd.prog 17 #[errE (A.free n).1, nun (A.free n).1] wx fun e w' => e = .returned (.bool true) ∧ LoneA w' w.heap.size k n s ∧ Hid (∃ F' G', Dn Rep (RepA base) w0 W0 w' p g F G F' G' (A.free n).2 (A.free n).2)) := fun wx hq => by
    obtain ⟨F', G', hD⟩ := hq.out
    refine (plainA (A.free n).1 (free_le A n) wx (hHan.out wx hD.pr.bel)).mono ?_
    rintro e w' ⟨rfl, hb⟩
    have h' := hD.below H HR hb
    exact ⟨rfl, hact.out _ _ _ _ _ h', F', G', h'⟩
  generalize (A.free n).1 = c at *
  generalize (A.free n).2 = A' at *
  have HH := Hid.mk' H
  clear H CG CP CT CL CX CF CW HR hst hwr HD0 hn
  go_enter Tryd.func8, Tryd.ntmps8
  go_wp2_with fail
  refine (cK.out _).mono ?_
  rintro e w9 ⟨rfl, hw9⟩
  rw [HW0.out] at hw9
  subst w9
  clear cK kk0
  go_wp2_with fail
  go_region_held3 (fun w' => LoneA w' w.heap.size k n s) (first | assumption | exact hA0 | go_keep) (first | (go_at_call 24; with_reducible refine (C1.out _ ?hb).mono ?_; (case hb => (first | exact Below.refl _ _ | exact (Below.refl _ _).drew | fail)); rintro e w1 ⟨rfl, hS1, hQ1⟩) | (go_at_call 25; with_reducible refine (C2.out _ hQ1).mono ?_; rintro e w2 ⟨rfl, hS2, hQ2⟩) | (go_at_call 17; with_reducible refine (C3.out _ hQ2).mono ?_; rintro e w3 ⟨rfl, hS3, hQ3⟩) | fail)
  clear hS1 hS2 hS3 C1 C2 C3
  go_wp2
  go_ret
  obtain ⟨F', G', h'⟩ := hQ3.out
  exact ⟨rfl, F', G', hout.out _ _ _ _ h'⟩

end An
end Go.Proofs.YtalpbciceogjlaaDoor
