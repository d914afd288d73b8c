/- The document's walk: Lives, Path; what the program's must answer. -/
import Derived.Test.YtbkcpjgaoncioaaWlkR
import Derived.Test.YtbkcpjgaoncioaaArnC
namespace Go.Proofs.Ytbkcpjgaoncioaa
set_option linter.ambiguousOpen false
open Go.RowKit
namespace Wk
open An Ft Lv
set_option linter.unusedSimpArgs false
set_option linter.unusedVariables false

theorem min_int (n : Nat) (w : World) : (Builtin.min_ #[3, 3] 3 #[.int .i64 (n : Int), .int .i64 6]).run Try.prog w = .ok (.int .i64 ((min n 6 : Nat) : Int)) w := by
  rw [run_min_int2]
  congr 2
  split <;> omega

set_option maxRecDepth 100000 in
set_option maxHeartbeats 1000000 in
theorem lives_ref (base : Nat) (w : World) (g b cap : Nat) (fv : Value) (A : Arn) (us ub : Int) (h : RAn base w g (.slice (some ⟨b, 0, none⟩) 32 cap) fv A) (hl : A.sl.length = 32) (hcc : 32 ≤ cap ∧ cap ≤ 9223372036854775807) :
    Calls Try.prog 10 #[ptr g, lkU us ub] w fun e w' => e = .returned (.tuple #[.bool (livB A.sl us ub), nun (livN A.sl us ub)]) ∧ Below w.heap.size w w' := by
  have hB0 : Below w.heap.size w (w.alloc (.cells #[nu us, nu ub] 33)) := (Below.refl _ _).alloc (Nat.le_refl _) _
  have hL0 := lnl_new w us ub
  obtain ⟨lb, hlb⟩ : ∃ lb, w.heap.size = lb := ⟨_, rfl⟩
  obtain ⟨W0, hW0⟩ : ∃ W0, w.alloc (.cells #[nu us, nu ub] 33) = W0 := ⟨_, rfl⟩
  rw [hW0] at hB0 hL0
  rw [hlb] at hL0
  have HW0 := Hid.mk' hW0
  have HLB := Hid.mk' hlb
  obtain ⟨x0, x1, _⟩ := hL0.cells
  have hp := up_pos 7 A.sl us ub
  have hlen := up_len 7 A.sl us ub
  have c1 : Hid (Calls Try.prog 30 #[ptr g, lkU us ub] W0 fun e w' => ∃ a c, e = .returned (.tuple #[.slice a (up 7 A.sl us ub).1.length c, .bool (up 7 A.sl us ub).2]) ∧ Below w.heap.size w w') := by
    refine (up_ref base W0 g b cap fv A us ub (h.below hB0) hl hcc).mono ?_
    rintro e w' ⟨a, c, rfl, _, hb⟩
    exact ⟨a, c, rfl, hB0.trans (hb.mono hB0.size)⟩
  unfold livB livN
  obtain ⟨P, hP⟩ : ∃ P, up 7 A.sl us ub = P := ⟨_, rfl⟩
  rw [hP] at c1 hp hlen ⊢
  obtain ⟨L, ok⟩ := P
  dsimp only at c1 hp hlen ⊢
  obtain ⟨n, hn⟩ : ∃ n, L.length = n := ⟨_, rfl⟩
  rw [hn] at c1 hp hlen ⊢
  have hmin := min_int n
  clear h hl hB0 hL0 hW0 hlb hP hn
  cases ok with
  | true =>
    obtain ⟨m, rfl⟩ : ∃ m, n = m + 1 := ⟨n - 1, by have := hp rfl; omega⟩
    rw [if_pos rfl]
    clear hp
    go_enter Try.func10, Try.ntmps10
    go_upto_region 1 with fail
    rw [HW0.out, HLB.out]
    go_wp2_with fail
    refine c1.out.mono ?_
    rintro e w1 ⟨a, c, rfl, hb1⟩
    have HB1 := Hid.mk' hb1
    clear hb1 x0 x1
    go_wp2
    go_ret2
    exact ⟨by simp, HB1.out⟩
  | false =>
    rw [if_neg (by decide)]
    clear hp
    go_enter Try.func10, Try.ntmps10
    go_upto_region 1 with fail
    rw [HW0.out, HLB.out]
    go_wp2_with fail
    refine c1.out.mono ?_
    rintro e w1 ⟨a, c, rfl, hb1⟩
    have HB1 := Hid.mk' hb1
    clear hb1 x0 x1
    go_wp2
    go_ret2
    exact ⟨rfl, HB1.out⟩

set_option maxRecDepth 100000 in
set_option maxHeartbeats 1000000 in
theorem path_ref (base : Nat) (w : World) (g b cap : Nat) (fv : Value) (A : Arn) (us ub : Int) (h : RAn base w g (.slice (some ⟨b, 0, none⟩) 32 cap) fv A) (hl : A.sl.length = 32) (hcc : 32 ≤ cap ∧ cap ≤ 9223372036854775807) :
    Calls Try.prog 13 #[ptr g, lkU us ub] w fun e w' => ∃ v, e = .returned v ∧ w'.ownsRow w.heap.size 3 1 v (pth A.sl us ub).length ((pth A.sl us ub).map nun) ∧ Below w.heap.size w w' := by
  have hB0 : Below w.heap.size w (w.alloc (.cells #[nu us, nu ub] 33)) := (Below.refl _ _).alloc (Nat.le_refl _) _
  have hL0 := lnl_new w us ub
  obtain ⟨lb, hlb⟩ : ∃ lb, w.heap.size = lb := ⟨_, rfl⟩
  obtain ⟨W0, hW0⟩ : ∃ W0, w.alloc (.cells #[nu us, nu ub] 33) = W0 := ⟨_, rfl⟩
  rw [hW0] at hB0 hL0
  rw [hlb] at hL0
  have HW0 := Hid.mk' hW0
  have HLB := Hid.mk' hlb
  obtain ⟨x0, x1, _⟩ := hL0.cells
  have c1 : Hid (Calls Try.prog 30 #[ptr g, lkU us ub] W0 fun e w' => ∃ a c, e = .returned (.tuple #[.slice a (up 7 A.sl us ub).1.length c, .bool (up 7 A.sl us ub).2]) ∧ Hid (w'.ownsRow w.heap.size 3 1 (.slice a (up 7 A.sl us ub).1.length c) (up 7 A.sl us ub).1.length ((up 7 A.sl us ub).1.map nun) ∧ Below w.heap.size w w')) := by
    refine (up_ref base W0 g b cap fv A us ub (h.below hB0) hl hcc).mono ?_
    rintro e w' ⟨a, c, rfl, ho, hb⟩
    exact ⟨a, c, rfl, own_monoA ho hB0.size, hB0.trans (hb.mono hB0.size)⟩
  unfold pth
  obtain ⟨P, hP⟩ : ∃ P, up 7 A.sl us ub = P := ⟨_, rfl⟩
  rw [hP] at c1 ⊢
  obtain ⟨L, ok⟩ := P
  dsimp only at c1 ⊢
  obtain ⟨n, hn⟩ : ∃ n, L.length = n := ⟨_, rfl⟩
  rw [hn] at c1
  have HN := Hid.mk' hn
  clear h hl hB0 hL0 hW0 hlb hP hn
  cases ok with
  | true =>
    rw [if_pos rfl]
    go_enter Try.func13, Try.ntmps13
    go_upto_region 1 with fail
    rw [HW0.out, HLB.out]
    go_wp2_with fail
    refine c1.out.mono ?_
    rintro e w1 ⟨a, c, rfl, hQ⟩
    clear x0 x1
    go_wp2
    go_ret
    refine ⟨_, rfl, ?_, hQ.out.2⟩
    rw [HN.out]
    exact hQ.out.1
  | false =>
    rw [if_neg (by decide)]
    go_enter Try.func13, Try.ntmps13
    go_upto_region 1 with fail
    rw [HW0.out, HLB.out]
    go_wp2_with fail
    refine c1.out.mono ?_
    rintro e w1 ⟨a, c, rfl, hQ⟩
    clear x0 x1
    go_wp2
    go_ret
    exact ⟨_, rfl, World.ownsRow_nil _ _ _ _, hQ.out.2⟩

/-! ### What the program must answer -/

structure WalkC (Rep : World → Nat → (Nat → Prop) → Arn → Prop) : Prop where
  lives : ∀ (w : World) (p : Nat) (F : Nat → Prop) (A : Arn) (us ub : Int), Rep w p F A → An.Good A → I64 us → I64 ub → Calls Try.prog 9 #[ptr p, lkU us ub] w fun e w' => e = .returned (.tuple #[.bool (livB A.sl us ub), nun (livN A.sl us ub)]) ∧ Below w.heap.size w w'
  path : ∀ (w : World) (p : Nat) (F : Nat → Prop) (A : Arn) (us ub : Int), Rep w p F A → An.Good A → I64 us → I64 ub → Calls Try.prog 11 #[ptr p, lkU us ub] w fun e w' => ∃ v, e = .returned v ∧ w'.ownsRow w.heap.size 3 1 v (pth A.sl us ub).length ((pth A.sl us ub).map nun) ∧ Below w.heap.size w w'
end Wk
end Go.Proofs.Ytbkcpjgaoncioaa
