/- Layer 22: the document's answers. -/
import Derived.Test.YtbgggekkkcefcabDoorGrP
import Derived.Test.YtbgggekkkcefcabDoorGrN
import Derived.Test.YtbgggekkkcefcabDoorGrW
import Derived.WalkKit
import Derived.WalkSpells
import Derived.WalkLawsBesides
import Derived.BigQuiet
import Derived.Deep.MidRow
import Derived.Handy
import Derived.Laws.ResultCell
namespace Go.Proofs.YtbgggekkkcefcabDoor
set_option linter.ambiguousOpen false
open Go.RowKit
namespace Gr
set_option linter.unusedVariables false
set_option linter.unusedSimpArgs false

theorem ret_bool {b c : Bool} (h : b = c) : Ending.returned (.bool b) = .returned (.bool c) := by rw [h]
theorem ret_int {k : IntKind} {a b : Int} (h : a = b) : Ending.returned (.int k a) = .returned (.int k b) := by rw [h]

theorem is_any (n : Int) (w : World) :
    Calls Tryd.prog 46 #[nu n] w fun e w' => e = .returned (.bool (lvlB n)) ∧ w' = w := by
  by_cases h0 : 0 ≤ n
  · by_cases h1 : n ≤ 2
    all_goals
      go_enter Tryd.func46, Tryd.ntmps46
      go_wp2
      go_ret
      exact ⟨ret_bool (by simp [lvlB]; omega), rfl⟩
  · go_enter Tryd.func46, Tryd.ntmps46
    go_wp2
    go_ret
    exact ⟨ret_bool (by simp [lvlB]; omega), rfl⟩

theorem room_any (b : Int) (f : Bool) (w : World) :
    Calls Tryd.prog 47 #[nu b, .bool f] w fun e w' => e = .returned (nu (roomE b f)) ∧ w' = w := by
  unfold roomE
  by_cases h0 : b < 0
  · go_enter Tryd.func47, Tryd.ntmps47
    go_wp2
    go_ret
    exact ⟨ret_int (by simp [h0]), rfl⟩
  · by_cases h1 : 1048576 ≤ b
    · go_enter Tryd.func47, Tryd.ntmps47
      go_wp2
      go_ret
      exact ⟨ret_int (by simp [h1]), rfl⟩
    · cases f
      all_goals
        go_enter Tryd.func47, Tryd.ntmps47
        go_wp2
        go_ret
        exact ⟨ret_int (by simp [h0, h1]), rfl⟩

/-- Until, whatever it tells. -/
theorem runtil_any (now life most : Int) (w : World) :
    Calls Tryd.prog 44 #[nu now, nu life, nu most] w fun e w' => e = .returned (.tuple #[nu (if Ck.untilB now life most = true then Ck.untilI now life most else 0), nu (if Ck.untilB now life most = true then 0 else 12)]) ∧ w' = w := by
  by_cases h : Ck.untilB now life most = true
  · simp only [h, if_true]
    exact Ck.runtil_yes now life most w h
  · simp only [h, if_false]
    exact Ck.runtil_no now life most w (by simpa using h)

theorem rname_c (s : ByteArray) (w : World) (h : s.size ≤ 281474976710656) : Calls Tryd.prog 45 #[.string s] w fun e w' => e = .returned (.bool (nmB s)) ∧ w' = w :=
  Nm.rname_any s w (by unfold maxLen; omega)

theorem rwithin_c (a b : Nat) (w : World) (ha : a < 18446744073709551616) (hb : b < 18446744073709551616) : Calls Tryd.prog 50 #[su a, su b] w fun e w' => e = .returned (.bool (inB a b)) ∧ w' = w :=
  Bt.rwithin_any a b w ha hb

theorem size_sn : (Tryd.prog.info? 28).map (·.size) = some 12 := by kernel_rfl

theorem results_sn {fn : Func} {p u : Tmp} (h : fn.results = #[.cell p 28, .tmp u]) (tmps : Array Value) (w : World) (g : Nat) (s : Sn) (hp : tmps.getD p undef = .pointer (some ⟨g, 0, none⟩)) (hg : w.heap[g]? = some (.cells s.arr 28)) :
    (results fn tmps).run Tryd.prog w = .ok (.tuple #[s.v, tmps.getD u undef]) w := by
  rw [results_cell_tmp h, hp]
  simp only [asAddr, Sem.run_pure, Result.andThen_ok, run_loadVar_row w g _ 28 _ _ _ hg Tryd.underlying28 rfl size_sn]
  rfl

theorem two_below (w : World) (a b : Obj) : Below w.heap.size w ((w.alloc a).alloc b) := ((Below.refl _ _).alloc (Nat.le_refl _) _).alloc (by simp) _

theorem two_at (w : World) (a b : Obj) : ((w.alloc a).alloc b).heap[w.heap.size + 1]? = some b := by
  have := heap_alloc_new (w.alloc a) b
  rwa [World.size_alloc] at this


set_option maxRecDepth 100000 in
set_option maxHeartbeats 1000000 in
theorem rlogin_any (r : Rq) (now births : Int) (full : Bool) (w : World) (hr : r.fit) :
    Calls Tryd.prog 29 #[r.v, nu now, nu births, .bool full] w fun e w' => e = .returned (.tuple #[(orS (loginE r now births full) (loginS r now births)).v, nu (loginE r now births full)]) ∧ Below w.heap.size w w' := by
  obtain ⟨h1, h2, h3, h4, h5⟩ := hr
  have cU := runtil_any now r.life 1099511627776
  have cN := fun w => rname_c r.user w h1
  have cI := is_any r.level
  have cR := room_any births full
  have hv : r.v = .agg #[.string r.user, .string r.label, su r.scopes, nu r.level, nu r.life] := rfl
  have hb := @room_yes births full
  rw [hv]
  unfold loginE
  obtain ⟨E, hE⟩ : ∃ E, roomE births full = E := ⟨_, rfl⟩
  rw [hE] at cR hb ⊢
  clear hE hv
  have hz : (zeroS).arr = #[nu 0, nu 0, nu 0, nu 0, nu 0, .string ByteArray.empty, .string ByteArray.empty, su 0, nu 0, nu 0, nu 0, nu 0] := rfl
  by_cases hu : nmB r.user = false
  · rw [hu] at cN
    simp only [hu, if_true]
    generalize (if Ck.untilB now r.life 1099511627776 = true then Ck.untilI now r.life 1099511627776 else 0) = D at cU
    generalize (if Ck.untilB now r.life 1099511627776 = true then (0 : Int) else 12) = U at cU
    clear hb cI cR hu
    go_enter Tryd.func29, Tryd.ntmps29
    go_wp2_with (first | (go_at_call 44; refine (cU _).mono ?_; rintro e w1 ⟨rfl, rfl⟩) | (go_at_call 45; refine (cN _).mono ?_; rintro e w1 ⟨rfl, rfl⟩) | (go_at_call 46; refine (cI _).mono ?_; rintro e w1 ⟨rfl, rfl⟩) | (go_at_call 47; refine (cR _).mono ?_; rintro e w1 ⟨rfl, rfl⟩))
    refine bodyPost_ret (results_sn rfl _ _ (w.heap.size + 1) zeroS rfl (two_at _ _ _)) rfl ⟨rfl, two_below _ _ _⟩
  rw [Bool.not_eq_false] at hu
  rw [hu] at cN
  simp only [hu, Bool.true_eq_false, if_false]
  by_cases hl : lvlB r.level = false
  · rw [hl] at cI
    simp only [hl, if_true]
    generalize (if Ck.untilB now r.life 1099511627776 = true then Ck.untilI now r.life 1099511627776 else 0) = D at cU
    generalize (if Ck.untilB now r.life 1099511627776 = true then (0 : Int) else 12) = U at cU
    clear hb cR hu hl
    go_enter Tryd.func29, Tryd.ntmps29
    go_wp2_with (first | (go_at_call 44; refine (cU _).mono ?_; rintro e w1 ⟨rfl, rfl⟩) | (go_at_call 45; refine (cN _).mono ?_; rintro e w1 ⟨rfl, rfl⟩) | (go_at_call 46; refine (cI _).mono ?_; rintro e w1 ⟨rfl, rfl⟩) | (go_at_call 47; refine (cR _).mono ?_; rintro e w1 ⟨rfl, rfl⟩))
    refine bodyPost_ret (results_sn rfl _ _ (w.heap.size + 1) zeroS rfl (two_at _ _ _)) rfl ⟨rfl, two_below _ _ _⟩
  rw [Bool.not_eq_false] at hl
  rw [hl] at cI
  simp only [hl, Bool.true_eq_false, if_false]
  by_cases hU : Ck.untilB now r.life 1099511627776 = false
  · simp only [hU, if_true, Bool.false_eq_true, if_false] at cU ⊢
    clear hb cR hu hl hU
    go_enter Tryd.func29, Tryd.ntmps29
    go_wp2_with (first | (go_at_call 44; refine (cU _).mono ?_; rintro e w1 ⟨rfl, rfl⟩) | (go_at_call 45; refine (cN _).mono ?_; rintro e w1 ⟨rfl, rfl⟩) | (go_at_call 46; refine (cI _).mono ?_; rintro e w1 ⟨rfl, rfl⟩) | (go_at_call 47; refine (cR _).mono ?_; rintro e w1 ⟨rfl, rfl⟩))
    refine bodyPost_ret (results_sn rfl _ _ (w.heap.size + 1) zeroS rfl (two_at _ _ _)) rfl ⟨rfl, two_below _ _ _⟩
  rw [Bool.not_eq_false] at hU
  have hlo : 0 ≤ now ∧ now ≤ 1099511627776 := ⟨(Ck.untilB_iff.1 hU).1, (Ck.untilB_iff.1 hU).2.1⟩
  simp only [hU, if_true, Bool.true_eq_false, if_false] at cU ⊢
  by_cases hE0 : E = 0
  · subst hE0
    obtain ⟨b1, b2, rfl⟩ := hb rfl
    generalize hD : Ck.untilI now r.life 1099511627776 = D at cU
    clear hu hl hU hb
    go_enter Tryd.func29, Tryd.ntmps29
    go_wp2_with (first | (go_at_call 44; refine (cU _).mono ?_; rintro e w1 ⟨rfl, rfl⟩) | (go_at_call 45; refine (cN _).mono ?_; rintro e w1 ⟨rfl, rfl⟩) | (go_at_call 46; refine (cI _).mono ?_; rintro e w1 ⟨rfl, rfl⟩) | (go_at_call 47; refine (cR _).mono ?_; rintro e w1 ⟨rfl, rfl⟩))
    refine bodyPost_ret (results_sn rfl _ _ (w.heap.size + 1) ⟨0, births + 1, 0, 0, 0, r.user, ByteArray.empty, r.scopes, r.level, now, D, 0⟩ rfl (two_at _ _ _)) rfl ⟨?_, two_below _ _ _⟩
    rw [orS, if_pos rfl, loginS, hD]
    rfl
  · clear hu hl hU hb
    generalize Ck.untilI now r.life 1099511627776 = D at cU
    go_enter Tryd.func29, Tryd.ntmps29
    go_wp2_with (first | (go_at_call 44; refine (cU _).mono ?_; rintro e w1 ⟨rfl, rfl⟩) | (go_at_call 45; refine (cN _).mono ?_; rintro e w1 ⟨rfl, rfl⟩) | (go_at_call 46; refine (cI _).mono ?_; rintro e w1 ⟨rfl, rfl⟩) | (go_at_call 47; refine (cR _).mono ?_; rintro e w1 ⟨rfl, rfl⟩))
    refine bodyPost_ret (results_sn rfl _ _ (w.heap.size + 1) zeroS rfl (two_at _ _ _)) rfl ⟨by simp [orS, hE0], two_below _ _ _⟩
end Gr
end Go.Proofs.YtbgggekkkcefcabDoor
