import Derived.Test.YteclbmmhidmklaaDoorSoQ
import Derived.Test.YteclbmmhidmklaaDoorHqF
import Derived.Test.YteclbmmhidmklaaDoorShelf
import Derived.Test.YteclbmmhidmklaaDoorShelfQ
/- A row that is sorted: SortFunc; a copy of the heap's row, in its order. -/
namespace Go.Proofs.YteclbmmhidmklaaDoor
set_option linter.ambiguousOpen false
open Go.RowKit
namespace Hq
open Hh Ft
set_option linter.unusedSimpArgs false
set_option linter.unusedVariables false
attribute [local go_sem] Oper.semAt_some

set_option maxRecDepth 100000 in
set_option maxHeartbeats 4000000 in
theorem insertion_0 (p : Nat) (v : Value) (W : World) : Calls Tryd.prog 67 #[v, nun 0, nun 0, cmpV p] W fun e W' => e = .returned (.tuple #[]) ∧ W' = W := by
  go_enter Tryd.func67, Tryd.ntmps67
  go_wp2
  go_loopw [8, 9] (fun iv jv wr => iv = .int .i64 1 ∧ Hid (wr = W)) (fun _ _ _ => 0)
  case atStart => exact ⟨rfl, rfl⟩
  case round =>
    obtain ⟨rfl, HW⟩ := hrel
    have hw := HW.out
    subst hw
    go_wp2
    go_end0
    exact ⟨rfl, rfl⟩

set_option maxRecDepth 100000 in
set_option maxHeartbeats 4000000 in
theorem pdq_0 (p lim : Nat) (v : Value) (W : World) : Calls Tryd.prog 60 #[v, nun 0, nun 0, nun lim, cmpV p] W fun e W' => e = .returned (.tuple #[]) ∧ W' = W := by
  have c1 := Hid.mk' (insertion_0 p v W)
  go_enter Tryd.func60, Tryd.ntmps60
  go_wp2_with fail
  go_loopw [1, 2, 3, 10, 11, 12, 13, 14, 15, 16, 17, 18, 19, 20] (fun av bv lv wbv wpv v12 v13 v14 v15 v16 v17 v18 v19 v20 wr => av = nun 0 ∧ bv = nun 0 ∧ Hid (wr = W)) (fun _ _ _ _ _ _ _ _ _ _ _ _ _ _ _ => 0)
  case atStart => exact ⟨rfl, rfl, rfl⟩
  case round =>
    obtain ⟨rfl, rfl, HW⟩ := hrel
    have hw := HW.out
    subst hw
    go_wp2_with fail
    refine c1.out.mono ?_
    rintro e w3 ⟨rfl, hw⟩
    have HW3 := Hid.mk' hw
    clear hw c1
    go_wp2
    (try simp only [Exit.inBlock, Exit.then])
    refine bodyPost_ret (results_none rfl _ _ _) rfl ?_
    exact ⟨rfl, HW3.out⟩

theorem aux_le : ∀ f x : Nat, Lib.bitLenAux f x ≤ f
  | 0, _ => Nat.le_refl _
  | f + 1, x => by
    have := aux_le f (x / 2)
    unfold Lib.bitLenAux
    split <;> omega

theorem len_few (n : Nat) : Lib.bitLen n ≤ 1000 := by
  have := aux_le 64 n
  unfold Lib.bitLen
  omega

set_option maxRecDepth 100000 in
set_option maxHeartbeats 4000000 in
theorem sortFunc_0 (p : Nat) (v : Value) (a : Option Addr) (c : Nat) (W : World) (hv : v = .slice a 0 c) : Calls Tryd.prog 49 #[v, cmpV p] W fun e W' => e = .returned (.tuple #[]) ∧ W' = W := by
  subst hv
  have c0 := Hid.mk' (Tryd.bits_Len 0 W (by decide) (by decide))
  have c1 : Hid (∀ lim : Nat, Calls Tryd.prog 60 #[.slice a 0 c, nun 0, nun 0, nun lim, cmpV p] W fun e W' => e = .returned (.tuple #[]) ∧ W' = W) := fun lim => pdq_0 p lim _ W
  go_enter Tryd.func49, Tryd.ntmps49
  go_wp2_with fail
  refine c0.out.mono ?_
  rintro e w1 ⟨rfl, rfl⟩
  go_wp2_with fail
  refine (c1.out _).mono ?_
  rintro e w2 ⟨rfl, rfl⟩
  go_wp2
  go_end0
  exact ⟨rfl, rfl⟩

set_option maxRecDepth 100000 in
set_option maxHeartbeats 4000000 in
theorem sortFunc_p {p g c n : Nat} {W : World} {D : List It} (h : Sw p g c n W D) : Calls Tryd.prog 49 #[slc g n c, cmpV p] W fun e W' => e = .returned (.tuple #[]) ∧ LeftW p g c n 0 n W W' D (Srt 0 n) := by
  have hn := h.big
  have hlen := len_few n
  have c0 := Hid.mk' (Tryd.bits_Len (n : Int) W (by omega) (by omega))
  have c1 := Hid.mk' (pdq_p (n + 1) h 0 n (Lib.bitLen (n : Int).toNat) (Nat.zero_le _) (Nat.le_refl _) (by omega) (by simpa using hlen) (fun x y h1 h2 h3 => by omega))
  obtain ⟨lim, hl⟩ : ∃ lim, Lib.bitLen (n : Int).toNat = lim := ⟨_, rfl⟩
  rw [hl] at c0 c1
  have hw : IntKind.u64.wrap (n : Int) = (n : Int) := by
    simp [IntKind.wrap, IntKind.bits, IntKind.signed]
    omega
  clear h hl hlen
  go_enter Tryd.func49, Tryd.ntmps49
  go_wp2_with fail
  refine c0.out.mono ?_
  rintro e w1 ⟨rfl, rfl⟩
  go_wp2_with fail
  refine c1.out.mono ?_
  rintro e w2 ⟨rfl, HE⟩
  have HE := Hid.mk' HE
  go_wp2
  go_end0
  exact ⟨rfl, HE.out⟩
end Hq
end Go.Proofs.YteclbmmhidmklaaDoor
