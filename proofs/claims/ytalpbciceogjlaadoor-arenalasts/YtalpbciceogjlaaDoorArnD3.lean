/- One act: Take, Get, all is asked. -/
import Derived.Test.YtalpbciceogjlaaDoorArnD
namespace Go.Proofs.YtalpbciceogjlaaDoor
set_option linter.ambiguousOpen false
open Go.RowKit
namespace An
open Ft Lv
set_option linter.unusedSimpArgs false
set_option linter.unusedVariables false

set_option maxRecDepth 100000 in
set_option maxHeartbeats 8000000 in
theorem does_take {Rep : World → Nat → (Nat → Prop) → Arn → Prop} (H : KeepC Rep) (CG : GetC Rep) (CP : PutC Rep) (CT : TakeC Rep) (CL : PlaceC Rep) (CX : FreeC Rep) (CF : FreesC Rep) (CW : WritesC Rep) (base : Nat) (w0 w : World) (p g : Nat) (F G : Nat → Prop) (A : Arn) (k n : Int) (s : Slt)
    (hP : Pr Rep (RepA base) w0 w p g F G A A) (hwr : A.wr ≤ 999999999) (hE : Er.Handle w0) (hk : -9223372036854775808 ≤ k ∧ k ≤ 9223372036854775807) (hn : -9223372036854775808 ≤ n ∧ n ≤ 9223372036854775807) (hm : k % 7 = ((2 : Nat) : Int)) :
    Calls Tryd.prog 8 #[ptr p, ptr g, actV k n s] w fun e w' => e = .returned (.bool true) ∧ ∃ F' G', Dn Rep (RepA base) w0 w w' p g F G F' G' (step A k n s) (step A k n s) := by
  have HR := KeepC.refA base
  have hB0 : Below w.heap.size w (w.alloc (.cells (actL k n s).toArray 38)) := (Below.refl _ _).alloc (Nat.le_refl _) _
  have hA0 : LoneA (w.alloc (.cells (actL k n s).toArray 38)) w.heap.size k n s := heap_alloc_new _ _
  have kk0 := hA0.cells.1
  obtain ⟨W0, hW0⟩ : ∃ W0, w.alloc (.cells (actL k n s).toArray 38) = W0 := ⟨_, rfl⟩
  rw [hW0] at hB0 hA0
  have HW0 := Hid.mk' hW0
  have hD0 : Dn Rep (RepA base) w0 W0 W0 p g F G F G A A := Dn.start (hP.below H HR hB0)
  have hXF : ¬ F w.heap.size ∧ ¬ G w.heap.size := ⟨fun e => by have := H.lt hP.rep _ e; omega, fun e => by have := HR.lt hP.ref _ e; omega⟩
  have hact : Hid (∀ w' F' G' A1 A2, Dn Rep (RepA base) w0 W0 w' p g F G F' G' A1 A2 → LoneA w' w.heap.size k n s) := fun w' F' G' A1 A2 h => h.act hA0 hXF
  have hout : Hid (∀ w' F' G' A', Dn Rep (RepA base) w0 W0 w' p g F G F' G' A' A' → Dn Rep (RepA base) w0 w w' p g F G F' G' A' A') := fun w' F' G' A' h => h.from hB0
  have cK : Hid (∀ wx, Calls Tryd.prog 7 #[nu k, nu 7] wx fun e w' => e = .returned (nu (k % 7)) ∧ w' = wx) := fun wx => pick_any k 7 wx (by decide) (by decide) hk
  have hHan : Hid (∀ w', Below w0.heap.size w0 w' → Er.Handle w') := fun w' hb => hE.below hb
  have hcs := fun (w' : World) (h : LoneA w' w.heap.size k n s) => h.cells
  obtain ⟨m, hme⟩ : ∃ m : Nat, m = 2 := ⟨_, rfl⟩
  rw [← hme] at hm
  have hst : step A k n s = if m = 1 then (A.put n s).2 else if m = 2 ∨ m = 3 then A.take.2.2 else if m = 4 then (A.place n).2 else if m = 5 then (A.free n).2 else A := by
    unfold step
    rw [hm]
    congr 1
    · exact propext ⟨fun h => by omega, fun h => by omega⟩
    · congr 1
      · exact propext ⟨fun h => by omega, fun h => by omega⟩
      · congr 1
        · exact propext ⟨fun h => by omega, fun h => by omega⟩
        · congr 1
          exact propext ⟨fun h => by omega, fun h => by omega⟩
  rw [hm] at cK
  have HD0 := Hid.mk' hD0
  have hA0c := hA0.cells
  clear hP hE hk hW0 hB0 hD0 hm hXF
  subst hme
  rw [show step A k n s = A.take.2.2 from hst] at *
  have C1 : Hid (Calls Tryd.prog 20 #[ptr g] W0 fun e w' => e = .returned (.tuple #[nun A.take.2.1, nun A.take.1]) ∧ Hid (∃ G', Dn Rep (RepA base) w0 W0 w' p g F G F G' A A.take.2.2)) := by
    have hD := HD0.out
    refine (take_r base W0 g G A hD.pr.ref hD.pr.good2).mono ?_
    rintro e w' ⟨rfl, hl⟩
    obtain ⟨G', h'⟩ := hD.turn2 H hl hD.pr.good2.take
    exact ⟨rfl, G', h'⟩
  have C2 : Hid (∀ wx, Hid (∃ G', Dn Rep (RepA base) w0 W0 wx p g F G F G' A A.take.2.2) → Calls Tryd.prog 21 #[ptr p] wx fun e w' => e = .returned (.tuple #[nun A.take.2.1, errE A.take.1]) ∧ Hid (∃ F' G', Dn Rep (RepA base) w0 W0 w' p g F G F' G' A.take.2.2 A.take.2.2)) := fun wx hq => by
    obtain ⟨G', hD⟩ := hq.out
    refine (CT wx p F A hD.pr.rep hD.pr.good1).mono ?_
    rintro e w' ⟨rfl, hl⟩
    obtain ⟨F', h'⟩ := hD.turn1 HR hl hD.pr.good1.take
    exact ⟨rfl, F', G', h'⟩
  have C3 : Hid (∀ wx, Hid (∃ F' G', Dn Rep (RepA base) w0 W0 wx p g F G F' G' A.take.2.2 A.take.2.2) → Calls Tryd.prog 17 #[errE A.take.1, nun A.take.1] wx fun e w' => e = .returned (.bool true) ∧ Hid (∃ F' G', Dn Rep (RepA base) w0 W0 w' p g F G F' G' A.take.2.2 A.take.2.2)) := fun wx hq => by
    obtain ⟨F', G', hD⟩ := hq.out
    refine (plainA A.take.1 (take_le A) wx (hHan.out wx hD.pr.bel)).mono ?_
    rintro e w' ⟨rfl, hb⟩
    exact ⟨rfl, F', G', hD.below H HR hb⟩
  generalize A.take.1 = c at *
  generalize A.take.2.1 = i at *
  generalize A.take.2.2 = A' at *
  have hii : ((i : Int) == (i : Int)) = true := by simp
  clear H CG CP CT CL CX CF CW HR hst hwr HD0 hn hcs hA0c
  go_enter Tryd.func8, Tryd.ntmps8
  go_wp2_with fail
  refine (cK.out _).mono ?_
  rintro e w9 ⟨rfl, hw9⟩
  rw [HW0.out] at hw9
  subst w9
  clear cK kk0
  go_wp2_with fail
  refine C1.out.mono ?_
  rintro e w1 ⟨rfl, hQ1⟩
  clear C1
  go_wp2_with fail
  refine (C2.out _ hQ1).mono ?_
  rintro e w2 ⟨rfl, hQ2⟩
  clear C2 hQ1
  go_wp2_with fail
  refine (C3.out _ hQ2).mono ?_
  rintro e w3 ⟨rfl, hQ3⟩
  clear C3 hQ2
  go_wp2
  go_ret
  obtain ⟨F', G', h'⟩ := hQ3.out
  exact ⟨rfl, F', G', hout.out _ _ _ _ h'⟩

set_option maxRecDepth 100000 in
set_option maxHeartbeats 8000000 in
theorem does_takt {Rep : World → Nat → (Nat → Prop) → Arn → Prop} (H : KeepC Rep) (CG : GetC Rep) (CP : PutC Rep) (CT : TakeC Rep) (CL : PlaceC Rep) (CX : FreeC Rep) (CF : FreesC Rep) (CW : WritesC Rep) (base : Nat) (w0 w : World) (p g : Nat) (F G : Nat → Prop) (A : Arn) (k n : Int) (s : Slt)
    (hP : Pr Rep (RepA base) w0 w p g F G A A) (hwr : A.wr ≤ 999999999) (hE : Er.Handle w0) (hk : -9223372036854775808 ≤ k ∧ k ≤ 9223372036854775807) (hn : -9223372036854775808 ≤ n ∧ n ≤ 9223372036854775807) (hm : k % 7 = ((3 : Nat) : Int)) :
    Calls Tryd.prog 8 #[ptr p, ptr g, actV k n s] w fun e w' => e = .returned (.bool true) ∧ ∃ F' G', Dn Rep (RepA base) w0 w w' p g F G F' G' (step A k n s) (step A k n s) := by
  have HR := KeepC.refA base
  have hB0 : Below w.heap.size w (w.alloc (.cells (actL k n s).toArray 38)) := (Below.refl _ _).alloc (Nat.le_refl _) _
  have hA0 : LoneA (w.alloc (.cells (actL k n s).toArray 38)) w.heap.size k n s := heap_alloc_new _ _
  have kk0 := hA0.cells.1
  obtain ⟨W0, hW0⟩ : ∃ W0, w.alloc (.cells (actL k n s).toArray 38) = W0 := ⟨_, rfl⟩
  rw [hW0] at hB0 hA0
  have HW0 := Hid.mk' hW0
  have hD0 : Dn Rep (RepA base) w0 W0 W0 p g F G F G A A := Dn.start (hP.below H HR hB0)
  have hXF : ¬ F w.heap.size ∧ ¬ G w.heap.size := ⟨fun e => by have := H.lt hP.rep _ e; omega, fun e => by have := HR.lt hP.ref _ e; omega⟩
  have hact : Hid (∀ w' F' G' A1 A2, Dn Rep (RepA base) w0 W0 w' p g F G F' G' A1 A2 → LoneA w' w.heap.size k n s) := fun w' F' G' A1 A2 h => h.act hA0 hXF
  have hout : Hid (∀ w' F' G' A', Dn Rep (RepA base) w0 W0 w' p g F G F' G' A' A' → Dn Rep (RepA base) w0 w w' p g F G F' G' A' A') := fun w' F' G' A' h => h.from hB0
  have cK : Hid (∀ wx, Calls Tryd.prog 7 #[nu k, nu 7] wx fun e w' => e = .returned (nu (k % 7)) ∧ w' = wx) := fun wx => pick_any k 7 wx (by decide) (by decide) hk
  have hHan : Hid (∀ w', Below w0.heap.size w0 w' → Er.Handle w') := fun w' hb => hE.below hb
  have hcs := fun (w' : World) (h : LoneA w' w.heap.size k n s) => h.cells
  obtain ⟨m, hme⟩ : ∃ m : Nat, m = 3 := ⟨_, rfl⟩
  rw [← hme] at hm
  have hst : step A k n s = if m = 1 then (A.put n s).2 else if m = 2 ∨ m = 3 then A.take.2.2 else if m = 4 then (A.place n).2 else if m = 5 then (A.free n).2 else A := by
    unfold step
    rw [hm]
    congr 1
    · exact propext ⟨fun h => by omega, fun h => by omega⟩
    · congr 1
      · exact propext ⟨fun h => by omega, fun h => by omega⟩
      · congr 1
        · exact propext ⟨fun h => by omega, fun h => by omega⟩
        · congr 1
          exact propext ⟨fun h => by omega, fun h => by omega⟩
  rw [hm] at cK
  have HD0 := Hid.mk' hD0
  have hA0c := hA0.cells
  clear hP hE hk hW0 hB0 hD0 hm hXF
  subst hme
  rw [show step A k n s = A.take.2.2 from hst] at *
  have C1 : Hid (Calls Tryd.prog 20 #[ptr g] W0 fun e w' => e = .returned (.tuple #[nun A.take.2.1, nun A.take.1]) ∧ Hid (∃ G', Dn Rep (RepA base) w0 W0 w' p g F G F G' A A.take.2.2)) := by
    have hD := HD0.out
    refine (take_r base W0 g G A hD.pr.ref hD.pr.good2).mono ?_
    rintro e w' ⟨rfl, hl⟩
    obtain ⟨G', h'⟩ := hD.turn2 H hl hD.pr.good2.take
    exact ⟨rfl, G', h'⟩
  have C2 : Hid (∀ wx, Hid (∃ G', Dn Rep (RepA base) w0 W0 wx p g F G F G' A A.take.2.2) → Calls Tryd.prog 21 #[ptr p] wx fun e w' => e = .returned (.tuple #[nun A.take.2.1, errE A.take.1]) ∧ Hid (∃ F' G', Dn Rep (RepA base) w0 W0 w' p g F G F' G' A.take.2.2 A.take.2.2)) := fun wx hq => by
    obtain ⟨G', hD⟩ := hq.out
    refine (CT wx p F A hD.pr.rep hD.pr.good1).mono ?_
    rintro e w' ⟨rfl, hl⟩
    obtain ⟨F', h'⟩ := hD.turn1 HR hl hD.pr.good1.take
    exact ⟨rfl, F', G', h'⟩
  have C3 : Hid (∀ wx, Hid (∃ F' G', Dn Rep (RepA base) w0 W0 wx p g F G F' G' A.take.2.2 A.take.2.2) → Calls Tryd.prog 17 #[errE A.take.1, nun A.take.1] wx fun e w' => e = .returned (.bool true) ∧ Hid (∃ F' G', Dn Rep (RepA base) w0 W0 w' p g F G F' G' A.take.2.2 A.take.2.2)) := fun wx hq => by
    obtain ⟨F', G', hD⟩ := hq.out
    refine (plainA A.take.1 (take_le A) wx (hHan.out wx hD.pr.bel)).mono ?_
    rintro e w' ⟨rfl, hb⟩
    exact ⟨rfl, F', G', hD.below H HR hb⟩
  generalize A.take.1 = c at *
  generalize A.take.2.1 = i at *
  generalize A.take.2.2 = A' at *
  have hii : ((i : Int) == (i : Int)) = true := by simp
  clear H CG CP CT CL CX CF CW HR hst hwr HD0 hn hcs hA0c
  go_enter Tryd.func8, Tryd.ntmps8
  go_wp2_with fail
  refine (cK.out _).mono ?_
  rintro e w9 ⟨rfl, hw9⟩
  rw [HW0.out] at hw9
  subst w9
  clear cK kk0
  go_wp2_with fail
  refine C1.out.mono ?_
  rintro e w1 ⟨rfl, hQ1⟩
  clear C1
  go_wp2_with fail
  refine (C2.out _ hQ1).mono ?_
  rintro e w2 ⟨rfl, hQ2⟩
  clear C2 hQ1
  go_wp2_with fail
  refine (C3.out _ hQ2).mono ?_
  rintro e w3 ⟨rfl, hQ3⟩
  clear C3 hQ2
  go_wp2
  go_ret
  obtain ⟨F', G', h'⟩ := hQ3.out
  exact ⟨rfl, F', G', hout.out _ _ _ _ h'⟩

set_option maxRecDepth 100000 in
set_option maxHeartbeats 8000000 in
theorem does_get {Rep : World → Nat → (Nat → Prop) → Arn → Prop} (H : KeepC Rep) (CG : GetC Rep) (CP : PutC Rep) (CT : TakeC Rep) (CL : PlaceC Rep) (CX : FreeC Rep) (CF : FreesC Rep) (CW : WritesC Rep) (base : Nat) (w0 w : World) (p g : Nat) (F G : Nat → Prop) (A : Arn) (k n : Int) (s : Slt)
    (hP : Pr Rep (RepA base) w0 w p g F G A A) (hwr : A.wr ≤ 999999999) (hE : Er.Handle w0) (hk : -9223372036854775808 ≤ k ∧ k ≤ 9223372036854775807) (hn : -9223372036854775808 ≤ n ∧ n ≤ 9223372036854775807) (hm : k % 7 = ((0 : Nat) : Int)) :
    Calls Tryd.prog 8 #[ptr p, ptr g, actV k n s] w fun e w' => e = .returned (.bool true) ∧ ∃ F' G', Dn Rep (RepA base) w0 w w' p g F G F' G' (step A k n s) (step A k n s) := by
  have HR := KeepC.refA base
  have hB0 : Below w.heap.size w (w.alloc (.cells (actL k n s).toArray 38)) := (Below.refl _ _).alloc (Nat.le_refl _) _
  have hA0 : LoneA (w.alloc (.cells (actL k n s).toArray 38)) w.heap.size k n s := heap_alloc_new _ _
  have kk0 := hA0.cells.1
  obtain ⟨W0, hW0⟩ : ∃ W0, w.alloc (.cells (actL k n s).toArray 38) = W0 := ⟨_, rfl⟩
  rw [hW0] at hB0 hA0
  have HW0 := Hid.mk' hW0
  have hD0 : Dn Rep (RepA base) w0 W0 W0 p g F G F G A A := Dn.start (hP.below H HR hB0)
  have hXF : ¬ F w.heap.size ∧ ¬ G w.heap.size := ⟨fun e => by have := H.lt hP.rep _ e; omega, fun e => by have := HR.lt hP.ref _ e; omega⟩
  have hact : Hid (∀ w' F' G' A1 A2, Dn Rep (RepA base) w0 W0 w' p g F G F' G' A1 A2 → LoneA w' w.heap.size k n s) := fun w' F' G' A1 A2 h => h.act hA0 hXF
  have hout : Hid (∀ w' F' G' A', Dn Rep (RepA base) w0 W0 w' p g F G F' G' A' A' → Dn Rep (RepA base) w0 w w' p g F G F' G' A' A') := fun w' F' G' A' h => h.from hB0
  have cK : Hid (∀ wx, Calls Tryd.prog 7 #[nu k, nu 7] wx fun e w' => e = .returned (nu (k % 7)) ∧ w' = wx) := fun wx => pick_any k 7 wx (by decide) (by decide) hk
  have hHan : Hid (∀ w', Below w0.heap.size w0 w' → Er.Handle w') := fun w' hb => hE.below hb
  have hcs := fun (w' : World) (h : LoneA w' w.heap.size k n s) => h.cells
  obtain ⟨m, hme⟩ : ∃ m : Nat, m = 0 := ⟨_, rfl⟩
  rw [← hme] at hm
  have hst : step A k n s = if m = 1 then (A.put n s).2 else if m = 2 ∨ m = 3 then A.take.2.2 else if m = 4 then (A.place n).2 else if m = 5 then (A.free n).2 else A := by
    unfold step
    rw [hm]
    congr 1
    · exact propext ⟨fun h => by omega, fun h => by omega⟩
    · congr 1
      · exact propext ⟨fun h => by omega, fun h => by omega⟩
      · congr 1
        · exact propext ⟨fun h => by omega, fun h => by omega⟩
        · congr 1
          exact propext ⟨fun h => by omega, fun h => by omega⟩
  rw [hm] at cK
  have HD0 := Hid.mk' hD0
  have hA0c := hA0.cells
  clear hP hE hk hW0 hB0 hD0 hm hXF
  subst hme
  rw [show step A k n s = A from hst] at *
  obtain ⟨x, hx⟩ : ∃ x, A.at n = x := ⟨_, rfl⟩
  have C1 : Hid (Calls Tryd.prog 15 #[ptr g, nu n] W0 fun e w' => e = .returned (.tuple #[x.v, nu (Arn.atE n : Int)]) ∧ Below W0.heap.size W0 w') := by
    have := get_r base W0 g G A n HD0.out.pr.ref HD0.out.pr.good2
    rw [hx] at this
    exact this
  have C2 : Hid (∀ wx, Below W0.heap.size W0 wx → Calls Tryd.prog 16 #[ptr p, nu n] wx fun e w' => e = .returned (.tuple #[x.v, errE (Arn.atE n)]) ∧ Below wx.heap.size wx w') := fun wx hb => by
    have hD := HD0.out.below H HR hb
    have := CG wx p F A n hD.pr.rep hD.pr.good1 hn
    rw [hx] at this
    exact this
  have C3 : Hid (∀ wx, Below W0.heap.size W0 wx → Calls Tryd.prog 17 #[errE (Arn.atE n), nu (Arn.atE n : Int)] wx fun e w' => e = .returned (.bool true) ∧ Below wx.heap.size wx w') := fun wx hb => plainA _ (atE_le n) wx (hHan.out wx (HD0.out.below H HR hb).pr.bel)
  have hfin : Hid (∀ wx, Below W0.heap.size W0 wx → Dn Rep (RepA base) w0 w wx p g F G F G A A) := fun wx hb => hout.out _ _ _ _ (HD0.out.below H HR hb)
  have hcell : Hid (∀ wx, Below W0.heap.size W0 wx → wx.cell? ⟨w.heap.size, 1, none⟩ = some (nu n)) := fun wx hb => (hact.out _ _ _ _ _ (HD0.out.below H HR hb)).cells.2.1
  have k1 := hcell.out W0 (Below.refl _ _)
  have heq := eql_self x
  generalize Arn.atE n = c at *
  clear H CG CP CT CL CX CF CW HR hst hwr HD0 hn hcs hA0c hx hact hout hHan
  go_enter Tryd.func8, Tryd.ntmps8
  go_wp2_with fail
  refine (cK.out _).mono ?_
  rintro e w9 ⟨rfl, hw9⟩
  rw [HW0.out] at hw9
  subst w9
  clear cK kk0
  go_wp2_with fail
  refine C1.out.mono ?_
  rintro e w3 ⟨rfl, hb3⟩
  have HB3 := Hid.mk' hb3
  have HZ3 := Hid.mk' (lone_zero w3)
  clear hb3 C1 k1
  go_wp2_with (first | (refine wpList_store_lone rfl _ _ rfl w3.heap.size rfl x rfl slt0 HZ3.out ?_; intro w4 hl4 hg4 hs4; have HL4 := Hid.mk' hl4; have HB4 : Hid (Below W0.heap.size W0 w4) := ((HB3.out.alloc HB3.out.size _).grown hg4 (HB3.out.alloc HB3.out.size _).size (fun r e => by cases e; exact HB3.out.size)); have hs4' : w4.heap.size = w3.heap.size + 1 := (by rw [hs4]; simp); have k4 := hcell.out w4 HB4.out; clear hl4 hg4 hs4) | fail)
  refine (C2.out _ HB4.out).mono ?_
  rintro e w5 ⟨rfl, hb5⟩
  have HB5 : Hid (Below W0.heap.size W0 w5) := HB4.out.trans (hb5.mono HB4.out.size)
  have HL5 := Hid.mk' (HL4.out.below hb5)
  have hs5 : w3.heap.size < w5.heap.size := by have := hb5.size; omega
  have HZ5 := Hid.mk' (lone_zero w5)
  clear hb5 C2 HL4 HB4 k4
  go_wp2_with (first | (refine wpList_store_lone rfl _ _ rfl w5.heap.size rfl x rfl slt0 HZ5.out ?_; intro w6 hl6 hg6 hs6; have HL6 := Hid.mk' hl6; have HB6 : Hid (Below W0.heap.size W0 w6) := ((HB5.out.alloc HB5.out.size _).grown hg6 (HB5.out.alloc HB5.out.size _).size (fun r e => by cases e; exact HB5.out.size)); have HM6 : Hid (Lone w6 w3.heap.size x) := Lone.grown (Lone.below HL5.out ((Below.refl _ _).alloc (Nat.le_refl _) _)) hg6 (by omega); clear hl6 hg6 hs6) | fail)
  refine (C3.out _ HB6.out).mono ?_
  rintro e w7 ⟨rfl, hb7⟩
  have HB7 : Hid (Below W0.heap.size W0 w7) := HB6.out.trans (hb7.mono HB6.out.size)
  have HL7 := Hid.mk' (HL6.out.below hb7)
  have HM7 := Hid.mk' (HM6.out.below hb7)
  clear hb7 C3 HL6 HM6 HB6 HB5 HL5 HB3 HZ3 HZ5
  go_wp2_with (first | (refine wpList_load_when (by rfl) _ rfl w5.heap.size rfl x HL7.out ?_) | (refine wpList_load_when (by rfl) _ rfl w3.heap.size rfl x HM7.out ?_) | fail)
  go_ret
  exact ⟨rfl, F, G, hfin.out _ HB7.out⟩

set_option maxRecDepth 100000 in
set_option maxHeartbeats 8000000 in
theorem does_asked {Rep : World → Nat → (Nat → Prop) → Arn → Prop} (H : KeepC Rep) (CG : GetC Rep) (CP : PutC Rep) (CT : TakeC Rep) (CL : PlaceC Rep) (CX : FreeC Rep) (CF : FreesC Rep) (CW : WritesC Rep) (base : Nat) (w0 w : World) (p g : Nat) (F G : Nat → Prop) (A : Arn) (k n : Int) (s : Slt)
    (hP : Pr Rep (RepA base) w0 w p g F G A A) (hwr : A.wr ≤ 999999999) (hE : Er.Handle w0) (hk : -9223372036854775808 ≤ k ∧ k ≤ 9223372036854775807) (hn : -9223372036854775808 ≤ n ∧ n ≤ 9223372036854775807) (hm : k % 7 = ((6 : Nat) : Int)) :
    Calls Tryd.prog 8 #[ptr p, ptr g, actV k n s] w fun e w' => e = .returned (.bool true) ∧ ∃ F' G', Dn Rep (RepA base) w0 w w' p g F G F' G' (step A k n s) (step A k n s) := by
  have HR := KeepC.refA base
  have hB0 : Below w.heap.size w (w.alloc (.cells (actL k n s).toArray 38)) := (Below.refl _ _).alloc (Nat.le_refl _) _
  have hA0 : LoneA (w.alloc (.cells (actL k n s).toArray 38)) w.heap.size k n s := heap_alloc_new _ _
  have kk0 := hA0.cells.1
  obtain ⟨W0, hW0⟩ : ∃ W0, w.alloc (.cells (actL k n s).toArray 38) = W0 := ⟨_, rfl⟩
  rw [hW0] at hB0 hA0
  have HW0 := Hid.mk' hW0
  have hD0 : Dn Rep (RepA base) w0 W0 W0 p g F G F G A A := Dn.start (hP.below H HR hB0)
  have hXF : ¬ F w.heap.size ∧ ¬ G w.heap.size := ⟨fun e => by have := H.lt hP.rep _ e; omega, fun e => by have := HR.lt hP.ref _ e; omega⟩
  have hact : Hid (∀ w' F' G' A1 A2, Dn Rep (RepA base) w0 W0 w' p g F G F' G' A1 A2 → LoneA w' w.heap.size k n s) := fun w' F' G' A1 A2 h => h.act hA0 hXF
  have hout : Hid (∀ w' F' G' A', Dn Rep (RepA base) w0 W0 w' p g F G F' G' A' A' → Dn Rep (RepA base) w0 w w' p g F G F' G' A' A') := fun w' F' G' A' h => h.from hB0
  have cK : Hid (∀ wx, Calls Tryd.prog 7 #[nu k, nu 7] wx fun e w' => e = .returned (nu (k % 7)) ∧ w' = wx) := fun wx => pick_any k 7 wx (by decide) (by decide) hk
  have hHan : Hid (∀ w', Below w0.heap.size w0 w' → Er.Handle w') := fun w' hb => hE.below hb
  have hcs := fun (w' : World) (h : LoneA w' w.heap.size k n s) => h.cells
  obtain ⟨m, hme⟩ : ∃ m : Nat, m = 6 := ⟨_, rfl⟩
  rw [← hme] at hm
  have hst : step A k n s = if m = 1 then (A.put n s).2 else if m = 2 ∨ m = 3 then A.take.2.2 else if m = 4 then (A.place n).2 else if m = 5 then (A.free n).2 else A := by
    unfold step
    rw [hm]
    congr 1
    · exact propext ⟨fun h => by omega, fun h => by omega⟩
    · congr 1
      · exact propext ⟨fun h => by omega, fun h => by omega⟩
      · congr 1
        · exact propext ⟨fun h => by omega, fun h => by omega⟩
        · congr 1
          exact propext ⟨fun h => by omega, fun h => by omega⟩
  rw [hm] at cK
  have HD0 := Hid.mk' hD0
  have hA0c := hA0.cells
  clear hP hE hk hW0 hB0 hD0 hm hXF
  subst hme
  rw [show step A k n s = A from hst] at *
  have C1 : Hid (Calls Tryd.prog 9 #[ptr p, ptr g] W0 fun e w' => e = .returned (.bool true) ∧ Below W0.heap.size W0 w') := asked_any H CG CF CW base W0 p g F G A HD0.out.pr.rep HD0.out.pr.ref HD0.out.pr.good1 (by omega) (hHan.out W0 HD0.out.pr.bel)
  have hfin : Hid (∀ wx, Below W0.heap.size W0 wx → Dn Rep (RepA base) w0 w wx p g F G F G A A) := fun wx hb => hout.out _ _ _ _ (HD0.out.below H HR hb)
  clear H CG CP CT CL CX CF CW HR hst hwr HD0 hn hcs hA0c hact hout hHan
  go_enter Tryd.func8, Tryd.ntmps8
  go_wp2_with fail
  refine (cK.out _).mono ?_
  rintro e w9 ⟨rfl, hw9⟩
  rw [HW0.out] at hw9
  subst w9
  clear cK kk0
  go_wp2_with fail
  refine C1.out.mono ?_
  rintro e w3 ⟨rfl, hb3⟩
  have HB3 := Hid.mk' hb3
  clear hb3 C1
  go_wp2
  go_ret
  exact ⟨rfl, F, G, hfin.out _ HB3.out⟩
end An
end Go.Proofs.YtalpbciceogjlaaDoor
