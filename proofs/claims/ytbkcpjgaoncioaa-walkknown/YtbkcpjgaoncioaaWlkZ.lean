/- WalkKnown's links: out of the contracts. -/
import Derived.Test.YtbkcpjgaoncioaaWlkY
import Derived.Test.YtbkcpjgaoncioaaWlkL
namespace Go.Proofs.Ytbkcpjgaoncioaa
set_option linter.ambiguousOpen false
open Go.RowKit
namespace Wk
open An Ft Lv
set_option linter.unusedSimpArgs false
set_option linter.unusedVariables false

def endsE : List Int := [-9223372036854775808, -1, 0, 1, 2, 31, 32, 9223372036854775807]

@[reducible] def endsA : Array Value := #[.int .i64 (-9223372036854775808), .int .i64 (-1), .int .i64 0, .int .i64 1, .int .i64 2, .int .i64 31, .int .i64 32, .int .i64 9223372036854775807]

theorem i64_0 : I64 0 := ⟨by decide, by decide⟩

theorem i64_1 : I64 1 := ⟨by decide, by decide⟩

theorem i64_2 : I64 2 := ⟨by decide, by decide⟩

theorem ends_i64 : ∀ i, i < 8 → I64 (endsE.getD i 0) := by decide +kernel

theorem ends_at (i : Nat) (h : i < 8) : endsA[i]? = some (nu (endsE.getD i 0)) := by
  match i, h with
  | 0, _ => rfl
  | 1, _ => rfl
  | 2, _ => rfl
  | 3, _ => rfl
  | 4, _ => rfl
  | 5, _ => rfl
  | 6, _ => rfl
  | 7, _ => rfl

set_option maxRecDepth 100000 in
theorem wp_alloc_slt {o : Oper} {a : Act} {w : World} {K : Act → World → Prop} {Q : Exit → Act → World → Prop} (ho : o.op = .alloc 52)
    (h : K (a.put o.dst (.pointer (some ⟨w.heap.size, 0, none⟩))) (w.alloc (.cells sltZ 52))) : o.wp Try.prog a w K Q := by
  obtain ⟨i0, ji, hz0, hz1, hz2⟩ := info_parts info_slt
  have hr : (execOp a.eval o).run Try.prog w = .ok (.value (.pointer (some ⟨w.heap.size, 0, none⟩))) (w.alloc (.cells sltZ 52)) := by
    unfold execOp
    simp [ho, Instr.alloc, zeroValue, typeInfo, ji, hz0, newVar, newRow]
    rfl
  unfold Oper.wp
  rw [hr]
  exact h

set_option maxRecDepth 100000 in
/-- A new slot, in a region that draws. -/
theorem slot_drawn (w : World) (x : Slt) : Lone ((w.drew.alloc (.cells sltZ 52)).setCells w.heap.size 0 x.cells) w.heap.size x ∧ Below w.heap.size w ((w.drew.alloc (.cells sltZ 52)).setCells w.heap.size 0 x.cells) ∧ (w.drew.alloc (.cells sltZ 52)).there w.heap.size 0 17 ∧ Below w.heap.size w (w.drew.alloc (.cells sltZ 52)) := by
  have h0 : Lone (w.drew.alloc (.cells sltZ 52)) w.heap.size slt0 := lone_zero w.drew
  have hB : Below w.heap.size w (w.drew.alloc (.cells sltZ 52)) := (Below.refl _ _).drew.alloc (Nat.le_refl _) _
  exact ⟨lone_cells h0 x, hB.grown (grown_setCells w.heap.size x.cells 0 _) hB.size (fun r e => by cases e; exact Nat.le_refl _), lone_there h0, hB⟩

theorem info_lk : (Try.prog.info? 33).map (fun i => (i.zero, i.size, i.bytes)) = some (some (lkU 0 0), 2, 16) := by kernel_rfl

@[reducible] def askA (x y : Int) : Array Value := #[nu x, nu y, nu 0, nu 1, nu 1, nu y, nu 2, nu 2, nu 1, nu 1]

set_option maxRecDepth 100000 in
theorem fill5 (x y : Int) : Instr.fill (fun i => some (i * 2, 2)) ((Array.range (5 * 2)).map ((lkU 0 0).cells[· % (lkU 0 0).cells.size]!)) [(0, lkU x y), (1, lkU 0 1), (2, lkU 1 y), (3, lkU 2 2), (4, lkU 1 1)] = some (askA x y) := by kernel_rfl

set_option maxRecDepth 100000 in
theorem run_build5 (x y : Int) (w : World) : (Instr.buildSlice 23 5 #[(0, lkU x y), (1, lkU 0 1), (2, lkU 1 y), (3, lkU 2 2), (4, lkU 1 1)]).run Try.prog w = .ok (.slice (some ⟨w.heap.size, 0, none⟩) 5 5) (w.alloc (.cells (askA x y) 33)) := by
  obtain ⟨i0, ji, hz0, hz1, hz2⟩ := info_parts info_lk
  have hf : Instr.fill (fun i => some (i * i0.size, i0.size)) ((Array.range (5 * i0.size)).map ((lkU 0 0).cells[· % (lkU 0 0).cells.size]!)) [(0, lkU x y), (1, lkU 0 1), (2, lkU 1 y), (3, lkU 2 2), (4, lkU 1 1)] = some (askA x y) := by
    rw [hz1]
    exact fill5 x y
  have h1 : ¬ 5 * i0.size > 2 ^ 24 := by rw [hz1]; decide
  have h2 : ¬ 5 * i0.size = 0 := by rw [hz1]; decide
  simp [Instr.buildSlice, run_underlying Try.underlying23, sizeOf, typeInfo, zeroValue, ji, hz0, h1, h2, hf, newRow]

theorem wp_build5 {o : Oper} {a : Act} {w : World} {K : Act → World → Prop} {Q : Exit → Act → World → Prop} (p q r s t : Operand) (ho : o.op = .buildSlice 23 5 #[(0, p), (1, q), (2, r), (3, s), (4, t)])
    (x y : Int) (hp : a.eval p = lkU x y) (hq : a.eval q = lkU 0 1) (hr : a.eval r = lkU 1 y) (hs : a.eval s = lkU 2 2) (ht : a.eval t = lkU 1 1)
    (h : K (a.put o.dst (.slice (some ⟨w.heap.size, 0, none⟩) 5 5)) (w.alloc (.cells (askA x y) 33))) : o.wp Try.prog a w K Q := by
  have e : (#[(0, p), (1, q), (2, r), (3, s), (4, t)] : Array (Nat × Operand)).map (fun (i, x) => (i, a.eval x)) = #[(0, lkU x y), (1, lkU 0 1), (2, lkU 1 y), (3, lkU 2 2), (4, lkU 1 1)] := by
    simp [hp, hq, hr, hs, ht]
  unfold Oper.wp execOp
  simp only [ho, e, Sem.run_bind, run_build5, Result.andThen_ok]
  exact h

/-- What lies there when the laws are asked. -/
structure Kt (w : World) (sb tb ub ab : Nat) (s t u : Slt) (x y : Int) : Prop where
  ls : Lone w sb s
  lt : Lone w tb t
  lu : Lone w ub u
  la : w.heap[ab]? = some (.cells (askA x y) 33)

section
variable {w w' : World} {sb tb ub ab : Nat} {s t u : Slt} {x y : Int}

theorem Kt.below (h : Kt w sb tb ub ab s t u x y) (hb : Below w.heap.size w w') : Kt w' sb tb ub ab s t u x y :=
  ⟨h.ls.below hb, h.lt.below hb, h.lu.below hb, (hb.block ab (Array.getElem?_eq_some_iff.1 h.la).1).trans h.la⟩

theorem Kt.ask (h : Kt w sb tb ub ab s t u x y) : RdK w (.slice (some ⟨ab, 0, none⟩) 5 5) [(x, y), (0, 1), (1, y), (2, 2), (1, 1)] := by
  refine ⟨_, _, rfl, Nat.le_refl _, by decide, fun _ => ⟨_, _, rfl, (Array.getElem?_eq_some_iff.1 h.la).1, fun n z hz j v hv => ?_⟩⟩
  rw [cell_of_row w ab _ _ _ _ h.la]
  have hj : j < 2 := (List.getElem?_eq_some_iff.1 hv).1
  rcases n with _ | _ | _ | _ | _ | n
  all_goals simp at hz
  all_goals subst hz
  all_goals rcases j with _ | _ | j
  all_goals first | (simp at hv; subst hv; rfl) | omega

theorem Kt.ask0 (h : Kt w sb tb ub ab s t u x y) : w.rangeAt ab 0 [nu x, nu y] := fun j v hv => by
  have hj : j < 2 := (List.getElem?_eq_some_iff.1 hv).1
  rw [cell_of_row w ab _ _ _ _ h.la]
  rcases j with _ | _ | j
  all_goals first | (simp at hv; subst hv; rfl) | omega

theorem Kt.ask1 (h : Kt w sb tb ub ab s t u x y) : w.rangeAt ab 2 [nu 0, nu 1] := fun j v hv => by
  have hj : j < 2 := (List.getElem?_eq_some_iff.1 hv).1
  rw [cell_of_row w ab _ _ _ _ h.la]
  rcases j with _ | _ | j
  all_goals first | (simp at hv; subst hv; rfl) | omega
end

/-- The ends lie there. -/
structure Ek (w0 w : World) (eb : Nat) : Prop where
  bel : Below w0.heap.size w0 w
  lo : w0.heap.size ≤ eb
  blk : w.heap[eb]? = some (.cells endsA 3)

theorem Ek.at {w0 w : World} {eb : Nat} (h : Ek w0 w eb) (i : Nat) (hi : i < 8) : w.cell? ⟨eb, i, none⟩ = some (nu (endsE.getD i 0)) := by
  rw [cell_of_row w eb i _ _ _ h.blk]
  exact ends_at i hi

theorem Ek.below {w0 w w' : World} {eb : Nat} (h : Ek w0 w eb) (hb : Below w.heap.size w w') : Ek w0 w' eb :=
  ⟨h.bel.trans (hb.mono h.bel.size), h.lo, (hb.block eb (Array.getElem?_eq_some_iff.1 h.blk).1).trans h.blk⟩

set_option maxRecDepth 100000 in
set_option maxHeartbeats 4000000 in
theorem knownLinks_yes (w : World) (cV : ∀ (wx : World) (v : Value) (L : List Slt) (u : Value) (K : List (Int × Int)), RdSl wx v L → (∀ x ∈ L, I64 x.s.birth) → RdK wx u K → (∀ x ∈ K, I64 x.1 ∧ I64 x.2) → Calls Try.prog 3 #[v, u] wx fun e w' => e = .returned (.bool true) ∧ Below wx.heap.size wx w')
    (cP : ∀ (wx : World) (v : Value) (L : List Slt) (us ub : Int), RdSl wx v L → (∀ x ∈ L, I64 x.s.birth) → I64 us → I64 ub → Calls Try.prog 5 #[v, lkU us ub] wx fun e w' => e = .returned (.bool true) ∧ Below wx.heap.size wx w') :
    Calls Try.prog 24 #[] w fun e w' => e = .returned (.bool true) ∧ Below w.heap.size w w' := by
  have CV := Hid.mk' cV
  have CP := Hid.mk' cP
  clear cV cP
  have HE0 : Hid (Ek w (w.alloc (.cells endsA 3)) w.heap.size) := ⟨(Below.refl _ _).alloc (Nat.le_refl _) _, Nat.le_refl _, heap_alloc_new _ _⟩
  go_enter Try.func24, Try.ntmps24
  go_wp2
  generalize w.alloc (.cells endsA 3) = w1 at *
  generalize w.heap.size = eb at HE0 ⊢
  go_loopw [2] (fun iv wr => ∃ i : Nat, i ≤ 8 ∧ iv = nun i ∧ Hid (Ek w wr eb)) (fun iv _ => 8 - (intOf iv).toNat)
  case atStart => exact ⟨0, by omega, rfl, HE0⟩
  case round =>
    clear HE0
    obtain ⟨i, hi, rfl, HE⟩ := hrel
    by_cases hi8 : i < 8
    · have hiI : (i : Int) < 8 := by omega
      have hi0 : (0 : Int) ≤ (i : Int) := by omega
      go_wp2
      rename World => wa
      go_loopw [3] (fun kv wr => ∃ k : Nat, k ≤ 8 ∧ kv = nun k ∧ Hid (Ek w wr eb)) (fun kv _ => 8 - (intOf kv).toNat)
      case atStart => exact ⟨0, by omega, rfl, HE⟩
      case round =>
        clear HE
        obtain ⟨k, hk, rfl, HE⟩ := hrel
        by_cases hk8 : k < 8
        · have hkI : (k : Int) < 8 := by omega
          have hk0 : (0 : Int) ≤ (k : Int) := by omega
          obtain ⟨x, hx⟩ : ∃ x, endsE.getD i 0 = x := ⟨_, rfl⟩
          obtain ⟨y, hy⟩ : ∃ y, endsE.getD k 0 = y := ⟨_, rfl⟩
          have HXI : Hid (I64 x) := by rw [← hx]; exact ends_i64 i hi8
          have HYI : Hid (I64 y) := by rw [← hy]; exact ends_i64 k hk8
          have HEA : Hid (∀ wx, Ek w wx eb → wx.cell? ⟨eb, i, none⟩ = some (nu x) ∧ wx.cell? ⟨eb, k, none⟩ = some (nu y)) := fun wx h => by
            rw [← hx, ← hy]
            exact ⟨h.at i hi8, h.at k hk8⟩
          clear hx hy
          go_upto_region 8 with fail
          obtain ⟨sb, hsb⟩ : ∃ b, wr.heap.size = b := ⟨_, rfl⟩
          have hD := slot_drawn wr (sK true false 1 x y)
          have hS : wr.cell? ⟨eb, i, none⟩ = some (nu x) ∧ wr.cell? ⟨eb, k, none⟩ = some (nu y) := HEA.out wr HE.out
          have hS1 : (wr.drew.alloc (.cells sltZ 52)).cell? ⟨eb, i, none⟩ = some (nu x) ∧ (wr.drew.alloc (.cells sltZ 52)).cell? ⟨eb, k, none⟩ = some (nu y) := HEA.out _ (HE.out.below hD.2.2.2)
          have HE2 := Hid.mk' (HE.out.below hD.2.1)
          have hS2 := HEA.out _ HE2.out
          have HLsb := Hid.mk' hD.1
          have HBsb := Hid.mk' hD.2.1
          have HTsb := Hid.mk' hD.2.2.1
          rw [hsb] at HLsb HBsb HTsb HE2 hS2
          clear hD
          refine wp_region_held_drew (S := fun w' => w'.cell? ⟨eb, i, none⟩ = some (nu x) ∧ w'.cell? ⟨eb, k, none⟩ = some (nu y)) (by kernel_rfl) hS (fun hHeld => ?_)
          refine wpAnyH_take (i := 0) (v := ?_) rfl (by kernel_rfl) (by kernel_rfl) (by kernel_rfl) (fun _ _ _ h => h) (Or.inl ⟨by rfl, ?_⟩) hHeld ?_
          rotate_left
          · (intro w' hS'; have hq1 := hS'.1; have hq2 := hS'.2; go_simp <;> with_reducible rfl)
          simp only [Act.put, List.getElem_toArray, List.getElem_cons_succ, List.getElem_cons_zero, List.setIfInBounds_toArray, List.set]
          refine wpAnyH_take (i := 1) (v := ?_) rfl (by kernel_rfl) (by kernel_rfl) (by kernel_rfl) (fun _ _ _ h => h) (Or.inl ⟨by rfl, ?_⟩) hHeld ?_
          rotate_left
          · (intro w' hS'; have hq1 := hS'.1; have hq2 := hS'.2; go_simp <;> with_reducible rfl)
          simp only [Act.put, List.getElem_toArray, List.getElem_cons_succ, List.getElem_cons_zero, List.setIfInBounds_toArray, List.set]
          refine wpAnyH_take (i := 2) (v := ?_) rfl (by kernel_rfl) (by kernel_rfl) (by kernel_rfl) (fun _ _ _ h => h) (Or.inl ⟨by rfl, ?_⟩) hHeld ?_
          rotate_left
          · (intro w' hS'; have hq1 := hS'.1; have hq2 := hS'.2; go_simp <;> with_reducible rfl)
          simp only [Act.put, List.getElem_toArray, List.getElem_cons_succ, List.getElem_cons_zero, List.setIfInBounds_toArray, List.set]
          refine wpAnyH_take (i := 3) (v := ?_) rfl (by kernel_rfl) (by kernel_rfl) (by kernel_rfl) (fun _ _ _ h => h) (Or.inl ⟨by rfl, ?_⟩) hHeld ?_
          rotate_left
          · (intro w' hS'; have hq1 := hS'.1; have hq2 := hS'.2; go_simp <;> with_reducible rfl)
          simp only [Act.put, List.getElem_toArray, List.getElem_cons_succ, List.getElem_cons_zero, List.setIfInBounds_toArray, List.set]
          refine wpAnyH_take (i := 4) (v := ?_) rfl (by kernel_rfl) (by kernel_rfl) (by kernel_rfl) (fun _ _ _ h => h) (Or.inl ⟨by rfl, ?_⟩) hHeld ?_
          rotate_left
          · (intro w' hS'; have hq1 := hS'.1; have hq2 := hS'.2; go_simp <;> with_reducible rfl)
          simp only [Act.put, List.getElem_toArray, List.getElem_cons_succ, List.getElem_cons_zero, List.setIfInBounds_toArray, List.set]
          refine wpAnyH_take (i := 5) (v := ?_) rfl (by kernel_rfl) (by kernel_rfl) (by kernel_rfl) (fun _ _ _ h => h) (Or.inl ⟨by rfl, ?_⟩) hHeld ?_
          rotate_left
          · (intro w' hS'; have hq1 := hS'.1; have hq2 := hS'.2; go_simp <;> with_reducible rfl)
          simp only [Act.put, List.getElem_toArray, List.getElem_cons_succ, List.getElem_cons_zero, List.setIfInBounds_toArray, List.set]
          refine wpAnyH_take (i := 6) (v := ?_) rfl (by kernel_rfl) (by kernel_rfl) (by kernel_rfl) (fun _ _ _ h => h) (Or.inl ⟨by rfl, ?_⟩) hHeld ?_
          rotate_left
          · (intro w' hS'; have hq1 := hS'.1; have hq2 := hS'.2; go_simp <;> with_reducible rfl)
          simp only [Act.put, List.getElem_toArray, List.getElem_cons_succ, List.getElem_cons_zero, List.setIfInBounds_toArray, List.set]
          refine wpAnyH_take (i := 7) (v := ?_) rfl (by kernel_rfl) (by kernel_rfl) (by kernel_rfl) (fun _ _ _ h => h) (Or.inl ⟨by rfl, ?_⟩) hHeld ?_
          rotate_left
          · (intro w' hS'; have hq1 := hS'.1; have hq2 := hS'.2; go_simp <;> with_reducible rfl)
          simp only [Act.put, List.getElem_toArray, List.getElem_cons_succ, List.getElem_cons_zero, List.setIfInBounds_toArray, List.set]
          refine wpAnyH_take (i := 8) (v := lkU x y) rfl (by kernel_rfl) (by kernel_rfl) (by kernel_rfl) (fun _ _ _ h => h) (Or.inl ⟨by rfl, ?_⟩) hHeld ?_
          · (intro w' hS'; kernel_rfl)
          simp only [Act.put, List.getElem_toArray, List.getElem_cons_succ, List.getElem_cons_zero, List.setIfInBounds_toArray, List.set]
          refine wpAnyH_take (i := 9) (v := .agg (sK true false 1 x y).s.cells.toArray) rfl (by kernel_rfl) (by kernel_rfl) (by kernel_rfl) (fun _ _ _ h => h) (Or.inl ⟨by rfl, ?_⟩) hHeld ?_
          · (intro w' hS'; kernel_rfl)
          simp only [Act.put, List.getElem_toArray, List.getElem_cons_succ, List.getElem_cons_zero, List.setIfInBounds_toArray, List.set]
          refine wpAnyH_take (i := 10) (v := (sK true false 1 x y).v) rfl (by kernel_rfl) (by kernel_rfl) (by kernel_rfl) (fun _ _ _ h => h) (Or.inl ⟨by rfl, ?_⟩) hHeld ?_
          · (intro w' hS'; kernel_rfl)
          simp only [Act.put, List.getElem_toArray, List.getElem_cons_succ, List.getElem_cons_zero, List.setIfInBounds_toArray, List.set]
          refine wpAnyH_ready (rs := [11]) (by kernel_rfl) (by simp) ?_
          refine AllReadyH.cons rfl (fun K hK => ?_) AllReadyH.nil
          rw [if_pos (by rfl)]
          simp only [List.getElem_toArray, List.getElem_cons_succ, List.getElem_cons_zero]
          refine wp_alloc_slt rfl ?_
          refine hK.out _ _ hS1 (fun hHeld => ?_)
          clear hK K
          simp only [Act.put, List.getElem_toArray, List.getElem_cons_succ, List.getElem_cons_zero, List.setIfInBounds_toArray, List.set]
          rw [show wr.drew.heap.size = sb from hsb]
          refine wpAnyH_ready (rs := [12]) (by kernel_rfl) (by simp) ?_
          refine AllReadyH.cons rfl (fun K hK => ?_) AllReadyH.nil
          rw [if_pos (by rfl)]
          simp only [List.getElem_toArray, List.getElem_cons_succ, List.getElem_cons_zero]
          refine wp_store_mid 52 _ _ rfl sb 0 (sK true false 1 x y).cells.toArray rfl rfl HTsb.out size_slt (all_one (sK true false 1 x y)) ?_
          refine hK.out _ _ hS2 (fun hHeld => ?_)
          clear hK K
          simp only [Act.put, List.getElem_toArray, List.getElem_cons_succ, List.getElem_cons_zero, List.setIfInBounds_toArray, List.set]
          refine wpAnyH_done (by kernel_rfl) ?_ _
          clear hHeld
          generalize (wr.drew.alloc (.cells sltZ 52)).setCells sb 0 (sK true false 1 x y).cells = w2 at *
          clear HTsb hS hS1 hS2
          go_upto_region 9 with fail
          obtain ⟨tb, htb⟩ : ∃ b, w2.heap.size = b := ⟨_, rfl⟩
          have hD := slot_drawn w2 (sK true false y x 1)
          have hS : w2.cell? ⟨eb, i, none⟩ = some (nu x) ∧ w2.cell? ⟨eb, k, none⟩ = some (nu y) := HEA.out w2 HE2.out
          have hS1 : (w2.drew.alloc (.cells sltZ 52)).cell? ⟨eb, i, none⟩ = some (nu x) ∧ (w2.drew.alloc (.cells sltZ 52)).cell? ⟨eb, k, none⟩ = some (nu y) := HEA.out _ (HE2.out.below hD.2.2.2)
          have HE3 := Hid.mk' (HE2.out.below hD.2.1)
          have hS2 := HEA.out _ HE3.out
          have HLtb := Hid.mk' hD.1
          have HBtb := Hid.mk' hD.2.1
          have HTtb := Hid.mk' hD.2.2.1
          rw [htb] at HLtb HBtb HTtb HE3 hS2
          clear hD
          refine wp_region_held_drew (S := fun w' => w'.cell? ⟨eb, i, none⟩ = some (nu x) ∧ w'.cell? ⟨eb, k, none⟩ = some (nu y)) (by kernel_rfl) hS (fun hHeld => ?_)
          refine wpAnyH_take (i := 0) (v := ?_) rfl (by kernel_rfl) (by kernel_rfl) (by kernel_rfl) (fun _ _ _ h => h) (Or.inl ⟨by rfl, ?_⟩) hHeld ?_
          rotate_left
          · (intro w' hS'; have hq1 := hS'.1; have hq2 := hS'.2; go_simp <;> with_reducible rfl)
          simp only [Act.put, List.getElem_toArray, List.getElem_cons_succ, List.getElem_cons_zero, List.setIfInBounds_toArray, List.set]
          refine wpAnyH_take (i := 1) (v := ?_) rfl (by kernel_rfl) (by kernel_rfl) (by kernel_rfl) (fun _ _ _ h => h) (Or.inl ⟨by rfl, ?_⟩) hHeld ?_
          rotate_left
          · (intro w' hS'; have hq1 := hS'.1; have hq2 := hS'.2; go_simp <;> with_reducible rfl)
          simp only [Act.put, List.getElem_toArray, List.getElem_cons_succ, List.getElem_cons_zero, List.setIfInBounds_toArray, List.set]
          refine wpAnyH_take (i := 2) (v := ?_) rfl (by kernel_rfl) (by kernel_rfl) (by kernel_rfl) (fun _ _ _ h => h) (Or.inl ⟨by rfl, ?_⟩) hHeld ?_
          rotate_left
          · (intro w' hS'; have hq1 := hS'.1; have hq2 := hS'.2; go_simp <;> with_reducible rfl)
          simp only [Act.put, List.getElem_toArray, List.getElem_cons_succ, List.getElem_cons_zero, List.setIfInBounds_toArray, List.set]
          refine wpAnyH_take (i := 3) (v := ?_) rfl (by kernel_rfl) (by kernel_rfl) (by kernel_rfl) (fun _ _ _ h => h) (Or.inl ⟨by rfl, ?_⟩) hHeld ?_
          rotate_left
          · (intro w' hS'; have hq1 := hS'.1; have hq2 := hS'.2; go_simp <;> with_reducible rfl)
          simp only [Act.put, List.getElem_toArray, List.getElem_cons_succ, List.getElem_cons_zero, List.setIfInBounds_toArray, List.set]
          refine wpAnyH_take (i := 4) (v := ?_) rfl (by kernel_rfl) (by kernel_rfl) (by kernel_rfl) (fun _ _ _ h => h) (Or.inl ⟨by rfl, ?_⟩) hHeld ?_
          rotate_left
          · (intro w' hS'; have hq1 := hS'.1; have hq2 := hS'.2; go_simp <;> with_reducible rfl)
          simp only [Act.put, List.getElem_toArray, List.getElem_cons_succ, List.getElem_cons_zero, List.setIfInBounds_toArray, List.set]
          refine wpAnyH_take (i := 5) (v := ?_) rfl (by kernel_rfl) (by kernel_rfl) (by kernel_rfl) (fun _ _ _ h => h) (Or.inl ⟨by rfl, ?_⟩) hHeld ?_
          rotate_left
          · (intro w' hS'; have hq1 := hS'.1; have hq2 := hS'.2; go_simp <;> with_reducible rfl)
          simp only [Act.put, List.getElem_toArray, List.getElem_cons_succ, List.getElem_cons_zero, List.setIfInBounds_toArray, List.set]
          refine wpAnyH_take (i := 6) (v := ?_) rfl (by kernel_rfl) (by kernel_rfl) (by kernel_rfl) (fun _ _ _ h => h) (Or.inl ⟨by rfl, ?_⟩) hHeld ?_
          rotate_left
          · (intro w' hS'; have hq1 := hS'.1; have hq2 := hS'.2; go_simp <;> with_reducible rfl)
          simp only [Act.put, List.getElem_toArray, List.getElem_cons_succ, List.getElem_cons_zero, List.setIfInBounds_toArray, List.set]
          refine wpAnyH_take (i := 7) (v := ?_) rfl (by kernel_rfl) (by kernel_rfl) (by kernel_rfl) (fun _ _ _ h => h) (Or.inl ⟨by rfl, ?_⟩) hHeld ?_
          rotate_left
          · (intro w' hS'; have hq1 := hS'.1; have hq2 := hS'.2; go_simp <;> with_reducible rfl)
          simp only [Act.put, List.getElem_toArray, List.getElem_cons_succ, List.getElem_cons_zero, List.setIfInBounds_toArray, List.set]
          refine wpAnyH_take (i := 8) (v := lkU x 1) rfl (by kernel_rfl) (by kernel_rfl) (by kernel_rfl) (fun _ _ _ h => h) (Or.inl ⟨by rfl, ?_⟩) hHeld ?_
          · (intro w' hS'; kernel_rfl)
          simp only [Act.put, List.getElem_toArray, List.getElem_cons_succ, List.getElem_cons_zero, List.setIfInBounds_toArray, List.set]
          refine wpAnyH_take (i := 9) (v := .agg (sK true false y x 1).s.cells.toArray) rfl (by kernel_rfl) (by kernel_rfl) (by kernel_rfl) (fun _ _ _ h => h) (Or.inl ⟨by rfl, ?_⟩) hHeld ?_
          · (intro w' hS'; kernel_rfl)
          simp only [Act.put, List.getElem_toArray, List.getElem_cons_succ, List.getElem_cons_zero, List.setIfInBounds_toArray, List.set]
          refine wpAnyH_take (i := 10) (v := (sK true false y x 1).v) rfl (by kernel_rfl) (by kernel_rfl) (by kernel_rfl) (fun _ _ _ h => h) (Or.inl ⟨by rfl, ?_⟩) hHeld ?_
          · (intro w' hS'; kernel_rfl)
          simp only [Act.put, List.getElem_toArray, List.getElem_cons_succ, List.getElem_cons_zero, List.setIfInBounds_toArray, List.set]
          refine wpAnyH_ready (rs := [11]) (by kernel_rfl) (by simp) ?_
          refine AllReadyH.cons rfl (fun K hK => ?_) AllReadyH.nil
          rw [if_pos (by rfl)]
          simp only [List.getElem_toArray, List.getElem_cons_succ, List.getElem_cons_zero]
          refine wp_alloc_slt rfl ?_
          refine hK.out _ _ hS1 (fun hHeld => ?_)
          clear hK K
          simp only [Act.put, List.getElem_toArray, List.getElem_cons_succ, List.getElem_cons_zero, List.setIfInBounds_toArray, List.set]
          rw [show w2.drew.heap.size = tb from htb]
          refine wpAnyH_ready (rs := [12]) (by kernel_rfl) (by simp) ?_
          refine AllReadyH.cons rfl (fun K hK => ?_) AllReadyH.nil
          rw [if_pos (by rfl)]
          simp only [List.getElem_toArray, List.getElem_cons_succ, List.getElem_cons_zero]
          refine wp_store_mid 52 _ _ rfl tb 0 (sK true false y x 1).cells.toArray rfl rfl HTtb.out size_slt (all_one (sK true false y x 1)) ?_
          refine hK.out _ _ hS2 (fun hHeld => ?_)
          clear hK K
          simp only [Act.put, List.getElem_toArray, List.getElem_cons_succ, List.getElem_cons_zero, List.setIfInBounds_toArray, List.set]
          refine wpAnyH_done (by kernel_rfl) ?_ _
          clear hHeld
          generalize (w2.drew.alloc (.cells sltZ 52)).setCells tb 0 (sK true false y x 1).cells = w3 at *
          clear HTtb hS hS1 hS2
          have hlt1 : sb < w2.heap.size := lone_lt HLsb.out
          have HLs3 : Hid (Lone w3 sb (sK true false 1 x y)) := HLsb.out.below (by rw [htb]; exact HBtb.out)
          go_upto_region 11 with (first | (refine wpList_store_lone rfl _ _ rfl w3.heap.size rfl (sK _ _ 2 0 0) rfl slt0 (lone_zero w3) ?_; intro w4 hl4 hg4 hs4; have HU4 : Hid (∃ u d, Lone w4 w3.heap.size (sK u d 2 0 0)) := ⟨_, _, hl4⟩; have HB4 : Hid (Below w3.heap.size w3 w4) := new_slot (Below.refl _ _) (Nat.le_refl _) hg4; clear hl4 hg4 hs4) | fail)
          obtain ⟨ub, hub⟩ : ∃ b, w3.heap.size = b := ⟨_, rfl⟩
          have HLt4 : Hid (Lone w4 tb (sK true false y x 1)) := HLtb.out.below HB4.out
          have HLs4 : Hid (Lone w4 sb (sK true false 1 x y)) := HLs3.out.below HB4.out
          have HE4 := Hid.mk' (HE3.out.below HB4.out)
          rw [hub] at HU4
          rw [hub]
          obtain ⟨uu, ud, hU4⟩ := HU4.out
          have HLu4 := Hid.mk' hU4
          clear HU4 hU4 HLs3 HLsb HLtb HBsb HBtb HE HE2 HE3 HB4 hlt1 hsb htb
          obtain ⟨ab, hab⟩ : ∃ b, w4.heap.size = b := ⟨_, rfl⟩
          have hBa : Below w4.heap.size w4 (w4.drew.alloc (.cells (askA x y) 33)) := (Below.refl _ _).drew.alloc (Nat.le_refl _) _
          have HE5 := Hid.mk' (HE4.out.below hBa)
          have HK5 : Hid (Kt (w4.drew.alloc (.cells (askA x y) 33)) sb tb ub ab (sK true false 1 x y) (sK true false y x 1) (sK uu ud 2 0 0) x y) := ⟨HLs4.out.below hBa, HLt4.out.below hBa, HLu4.out.below hBa, by rw [← hab]; exact heap_alloc_new w4.drew _⟩
          have hS : w4.cell? ⟨eb, i, none⟩ = some (nu x) ∧ w4.cell? ⟨eb, k, none⟩ = some (nu y) := HEA.out w4 HE4.out
          have hS1 := HEA.out _ HE5.out
          clear HE4 HLs4 HLt4 HLu4 hBa hub
          refine wp_region_held_drew (S := fun w' => w'.cell? ⟨eb, i, none⟩ = some (nu x) ∧ w'.cell? ⟨eb, k, none⟩ = some (nu y)) (by kernel_rfl) hS (fun hHeld => ?_)
          refine wpAnyH_take (i := 0) (v := ?_) rfl (by kernel_rfl) (by kernel_rfl) (by kernel_rfl) (fun _ _ _ h => h) (Or.inl ⟨by rfl, ?_⟩) hHeld ?_
          rotate_left
          · (intro w' hS'; have hq1 := hS'.1; have hq2 := hS'.2; go_simp <;> with_reducible rfl)
          simp only [Act.put, List.getElem_toArray, List.getElem_cons_succ, List.getElem_cons_zero, List.setIfInBounds_toArray, List.set]
          refine wpAnyH_take (i := 1) (v := ?_) rfl (by kernel_rfl) (by kernel_rfl) (by kernel_rfl) (fun _ _ _ h => h) (Or.inl ⟨by rfl, ?_⟩) hHeld ?_
          rotate_left
          · (intro w' hS'; have hq1 := hS'.1; have hq2 := hS'.2; go_simp <;> with_reducible rfl)
          simp only [Act.put, List.getElem_toArray, List.getElem_cons_succ, List.getElem_cons_zero, List.setIfInBounds_toArray, List.set]
          refine wpAnyH_take (i := 2) (v := ?_) rfl (by kernel_rfl) (by kernel_rfl) (by kernel_rfl) (fun _ _ _ h => h) (Or.inl ⟨by rfl, ?_⟩) hHeld ?_
          rotate_left
          · (intro w' hS'; have hq1 := hS'.1; have hq2 := hS'.2; go_simp <;> with_reducible rfl)
          simp only [Act.put, List.getElem_toArray, List.getElem_cons_succ, List.getElem_cons_zero, List.setIfInBounds_toArray, List.set]
          refine wpAnyH_take (i := 3) (v := ?_) rfl (by kernel_rfl) (by kernel_rfl) (by kernel_rfl) (fun _ _ _ h => h) (Or.inl ⟨by rfl, ?_⟩) hHeld ?_
          rotate_left
          · (intro w' hS'; have hq1 := hS'.1; have hq2 := hS'.2; go_simp <;> with_reducible rfl)
          simp only [Act.put, List.getElem_toArray, List.getElem_cons_succ, List.getElem_cons_zero, List.setIfInBounds_toArray, List.set]
          refine wpAnyH_take (i := 4) (v := ?_) rfl (by kernel_rfl) (by kernel_rfl) (by kernel_rfl) (fun _ _ _ h => h) (Or.inl ⟨by rfl, ?_⟩) hHeld ?_
          rotate_left
          · (intro w' hS'; have hq1 := hS'.1; have hq2 := hS'.2; go_simp <;> with_reducible rfl)
          simp only [Act.put, List.getElem_toArray, List.getElem_cons_succ, List.getElem_cons_zero, List.setIfInBounds_toArray, List.set]
          refine wpAnyH_take (i := 5) (v := ?_) rfl (by kernel_rfl) (by kernel_rfl) (by kernel_rfl) (fun _ _ _ h => h) (Or.inl ⟨by rfl, ?_⟩) hHeld ?_
          rotate_left
          · (intro w' hS'; have hq1 := hS'.1; have hq2 := hS'.2; go_simp <;> with_reducible rfl)
          simp only [Act.put, List.getElem_toArray, List.getElem_cons_succ, List.getElem_cons_zero, List.setIfInBounds_toArray, List.set]
          refine wpAnyH_take (i := 6) (v := ?_) rfl (by kernel_rfl) (by kernel_rfl) (by kernel_rfl) (fun _ _ _ h => h) (Or.inl ⟨by rfl, ?_⟩) hHeld ?_
          rotate_left
          · (intro w' hS'; have hq1 := hS'.1; have hq2 := hS'.2; go_simp <;> with_reducible rfl)
          simp only [Act.put, List.getElem_toArray, List.getElem_cons_succ, List.getElem_cons_zero, List.setIfInBounds_toArray, List.set]
          refine wpAnyH_take (i := 7) (v := ?_) rfl (by kernel_rfl) (by kernel_rfl) (by kernel_rfl) (fun _ _ _ h => h) (Or.inl ⟨by rfl, ?_⟩) hHeld ?_
          rotate_left
          · (intro w' hS'; have hq1 := hS'.1; have hq2 := hS'.2; go_simp <;> with_reducible rfl)
          simp only [Act.put, List.getElem_toArray, List.getElem_cons_succ, List.getElem_cons_zero, List.setIfInBounds_toArray, List.set]
          refine wpAnyH_take (i := 8) (v := lkU x y) rfl (by kernel_rfl) (by kernel_rfl) (by kernel_rfl) (fun _ _ _ h => h) (Or.inl ⟨by rfl, ?_⟩) hHeld ?_
          · (intro w' hS'; kernel_rfl)
          simp only [Act.put, List.getElem_toArray, List.getElem_cons_succ, List.getElem_cons_zero, List.setIfInBounds_toArray, List.set]
          refine wpAnyH_take (i := 9) (v := lkU 0 1) rfl (by kernel_rfl) (by kernel_rfl) (by kernel_rfl) (fun _ _ _ h => h) (Or.inl ⟨by rfl, ?_⟩) hHeld ?_
          · (intro w' hS'; kernel_rfl)
          simp only [Act.put, List.getElem_toArray, List.getElem_cons_succ, List.getElem_cons_zero, List.setIfInBounds_toArray, List.set]
          refine wpAnyH_take (i := 10) (v := ?_) rfl (by kernel_rfl) (by kernel_rfl) (by kernel_rfl) (fun _ _ _ h => h) (Or.inl ⟨by rfl, ?_⟩) hHeld ?_
          rotate_left
          · (intro w' hS'; have hq1 := hS'.1; have hq2 := hS'.2; go_simp <;> with_reducible rfl)
          simp only [Act.put, List.getElem_toArray, List.getElem_cons_succ, List.getElem_cons_zero, List.setIfInBounds_toArray, List.set]
          refine wpAnyH_take (i := 11) (v := ?_) rfl (by kernel_rfl) (by kernel_rfl) (by kernel_rfl) (fun _ _ _ h => h) (Or.inl ⟨by rfl, ?_⟩) hHeld ?_
          rotate_left
          · (intro w' hS'; have hq1 := hS'.1; have hq2 := hS'.2; go_simp <;> with_reducible rfl)
          simp only [Act.put, List.getElem_toArray, List.getElem_cons_succ, List.getElem_cons_zero, List.setIfInBounds_toArray, List.set]
          refine wpAnyH_take (i := 12) (v := ?_) rfl (by kernel_rfl) (by kernel_rfl) (by kernel_rfl) (fun _ _ _ h => h) (Or.inl ⟨by rfl, ?_⟩) hHeld ?_
          rotate_left
          · (intro w' hS'; have hq1 := hS'.1; have hq2 := hS'.2; go_simp <;> with_reducible rfl)
          simp only [Act.put, List.getElem_toArray, List.getElem_cons_succ, List.getElem_cons_zero, List.setIfInBounds_toArray, List.set]
          refine wpAnyH_take (i := 13) (v := ?_) rfl (by kernel_rfl) (by kernel_rfl) (by kernel_rfl) (fun _ _ _ h => h) (Or.inl ⟨by rfl, ?_⟩) hHeld ?_
          rotate_left
          · (intro w' hS'; have hq1 := hS'.1; have hq2 := hS'.2; go_simp <;> with_reducible rfl)
          simp only [Act.put, List.getElem_toArray, List.getElem_cons_succ, List.getElem_cons_zero, List.setIfInBounds_toArray, List.set]
          refine wpAnyH_take (i := 14) (v := lkU 1 y) rfl (by kernel_rfl) (by kernel_rfl) (by kernel_rfl) (fun _ _ _ h => h) (Or.inl ⟨by rfl, ?_⟩) hHeld ?_
          · (intro w' hS'; kernel_rfl)
          simp only [Act.put, List.getElem_toArray, List.getElem_cons_succ, List.getElem_cons_zero, List.setIfInBounds_toArray, List.set]
          refine wpAnyH_take (i := 15) (v := lkU 2 2) rfl (by kernel_rfl) (by kernel_rfl) (by kernel_rfl) (fun _ _ _ h => h) (Or.inl ⟨by rfl, ?_⟩) hHeld ?_
          · (intro w' hS'; kernel_rfl)
          simp only [Act.put, List.getElem_toArray, List.getElem_cons_succ, List.getElem_cons_zero, List.setIfInBounds_toArray, List.set]
          refine wpAnyH_take (i := 16) (v := lkU 1 1) rfl (by kernel_rfl) (by kernel_rfl) (by kernel_rfl) (fun _ _ _ h => h) (Or.inl ⟨by rfl, ?_⟩) hHeld ?_
          · (intro w' hS'; kernel_rfl)
          simp only [Act.put, List.getElem_toArray, List.getElem_cons_succ, List.getElem_cons_zero, List.setIfInBounds_toArray, List.set]
          refine wpAnyH_ready (rs := [17]) (by kernel_rfl) (by simp) ?_
          refine AllReadyH.cons rfl (fun K hK => ?_) AllReadyH.nil
          rw [if_pos (by rfl)]
          simp only [List.getElem_toArray, List.getElem_cons_succ, List.getElem_cons_zero]
          refine wp_build5 _ _ _ _ _ rfl x y rfl rfl rfl rfl rfl ?_
          refine hK.out _ _ hS1 (fun hHeld => ?_)
          clear hK K
          simp only [Act.put, List.getElem_toArray, List.getElem_cons_succ, List.getElem_cons_zero, List.setIfInBounds_toArray, List.set]
          rw [show w4.drew.heap.size = ab from hab]
          refine wpAnyH_take (i := 18) (v := ?_) rfl (by kernel_rfl) (by kernel_rfl) (by kernel_rfl) (fun _ _ _ h => h) (Or.inl ⟨by rfl, ?_⟩) hHeld ?_
          rotate_left
          · (intro w' hS'; go_simp <;> with_reducible rfl)
          simp only [Act.put, List.getElem_toArray, List.getElem_cons_succ, List.getElem_cons_zero, List.setIfInBounds_toArray, List.set]
          refine wpAnyH_done (by kernel_rfl) ?_ _
          clear hHeld
          generalize w4.drew.alloc (.cells (askA x y) 33) = w5 at *
          clear hS hS1 HEA hab
          have HBI : Hid (∀ z ∈ [(sK true false 1 x y), (sK true false y x 1), sK uu ud 2 0 0], I64 z.s.birth) := fun z hz => by
            simp only [List.mem_cons, List.not_mem_nil, or_false] at hz
            rcases hz with rfl | rfl | rfl
            · exact i64_1
            · exact HYI.out
            · exact i64_2
          have CVx : Hid (∀ wx wy, Kt wx sb tb ub ab (sK true false 1 x y) (sK true false y x 1) (sK uu ud 2 0 0) x y → wy = wx.alloc (.cells (scs [(sK true false 1 x y), (sK true false y x 1), sK uu ud 2 0 0]).toArray 52) → Calls Try.prog 3 #[.slice (some ⟨wx.heap.size, 0, none⟩) 3 3, .slice (some ⟨ab, 0, none⟩) 5 5] wy fun e w' => e = .returned (.bool true) ∧ Hid (Below wx.heap.size wx w')) := fun wx wy h e => by
            subst e
            have hB : Below wx.heap.size wx (wx.alloc (.cells (scs [(sK true false 1 x y), (sK true false y x 1), sK uu ud 2 0 0]).toArray 52)) := (Below.refl _ _).alloc (Nat.le_refl _) _
            refine (CV.out _ _ [(sK true false 1 x y), (sK true false y x 1), sK uu ud 2 0 0] _ _ (rdSl_new wx _ 3 rfl (by omega)) HBI.out (h.below hB).ask ?_).mono ?_
            · intro z hz
              simp only [List.mem_cons, List.not_mem_nil, or_false] at hz
              rcases hz with rfl | rfl | rfl | rfl | rfl
              · exact ⟨HXI.out, HYI.out⟩
              · exact ⟨i64_0, i64_1⟩
              · exact ⟨i64_1, HYI.out⟩
              · exact ⟨i64_2, i64_2⟩
              · exact ⟨i64_1, i64_1⟩
            · rintro e w' ⟨rfl, hb⟩
              exact ⟨rfl, hB.trans (hb.mono hB.size)⟩
          have CPx : Hid (∀ wx wy us ub', I64 us → I64 ub' → wy = wx.alloc (.cells (scs [(sK true false 1 x y), (sK true false y x 1), sK uu ud 2 0 0]).toArray 52) → Calls Try.prog 5 #[.slice (some ⟨wx.heap.size, 0, none⟩) 3 3, lkU us ub'] wy fun e w' => e = .returned (.bool true) ∧ Hid (Below wx.heap.size wx w')) := fun wx wy us ub' h1 h2 e => by
            subst e
            have hB : Below wx.heap.size wx (wx.alloc (.cells (scs [(sK true false 1 x y), (sK true false y x 1), sK uu ud 2 0 0]).toArray 52)) := (Below.refl _ _).alloc (Nat.le_refl _) _
            refine (CP.out _ _ [(sK true false 1 x y), (sK true false y x 1), sK uu ud 2 0 0] us ub' (rdSl_new wx _ 3 rfl (by omega)) HBI.out h1 h2).mono ?_
            rintro e w' ⟨rfl, hb⟩
            exact ⟨rfl, hB.trans (hb.mono hB.size)⟩
          go_upto_region 12 with fail
          have hS := HK5.out.below (Below.refl _ _).drew
          have HE6 := Hid.mk' HE5.out
          clear CV CP HBI HK5 HE5
          refine wp_region_held_drew (S := fun w' => Kt w' sb tb ub ab (sK true false 1 x y) (sK true false y x 1) (sK uu ud 2 0 0) x y) (by kernel_rfl) hS (fun hHeld => ?_)
          have hk0 : Kt w5.drew sb tb ub ab (sK true false 1 x y) (sK true false y x 1) (sK uu ud 2 0 0) x y := hS
          have HE7 : Hid (Ek w w5.drew eb) := HE6.out.below (Below.refl _ _).drew
          generalize w5.drew = w6 at *
          refine wpAnyH_take (i := 0) (v := _) rfl (by kernel_rfl) (by kernel_rfl) (by kernel_rfl) (fun _ _ _ h => h) (yieldsIf_load_mid (by rfl) 52 _ rfl sb 0 rfl (sK true false 1 x y).cells _ (fun w' h => h.ls.range) Try.underlying52 rfl size_slt) hHeld ?_
          simp only [Act.put, List.getElem_toArray, List.getElem_cons_succ, List.getElem_cons_zero, List.setIfInBounds_toArray, List.set]
          refine wpAnyH_take (i := 1) (v := _) rfl (by kernel_rfl) (by kernel_rfl) (by kernel_rfl) (fun _ _ _ h => h) (yieldsIf_load_mid (by rfl) 52 _ rfl tb 0 rfl (sK true false y x 1).cells _ (fun w' h => h.lt.range) Try.underlying52 rfl size_slt) hHeld ?_
          simp only [Act.put, List.getElem_toArray, List.getElem_cons_succ, List.getElem_cons_zero, List.setIfInBounds_toArray, List.set]
          refine wpAnyH_take (i := 2) (v := _) rfl (by kernel_rfl) (by kernel_rfl) (by kernel_rfl) (fun _ _ _ h => h) (yieldsIf_load_mid (by rfl) 52 _ rfl ub 0 rfl (sK uu ud 2 0 0).cells _ (fun w' h => h.lu.range) Try.underlying52 rfl size_slt) hHeld ?_
          simp only [Act.put, List.getElem_toArray, List.getElem_cons_succ, List.getElem_cons_zero, List.setIfInBounds_toArray, List.set]
          refine wpAnyH_take (i := 4) (v := ?_) rfl (by kernel_rfl) (by kernel_rfl) (by kernel_rfl) (fun _ _ _ h => h) (Or.inl ⟨by rfl, ?_⟩) hHeld ?_
          rotate_left
          · (intro w' hS'; go_simp <;> with_reducible rfl)
          simp only [Act.put, List.getElem_toArray, List.getElem_cons_succ, List.getElem_cons_zero, List.setIfInBounds_toArray, List.set]
          have hB3 : Below w6.heap.size w6 (w6.alloc (.cells (scs [(sK true false 1 x y), (sK true false y x 1), (sK uu ud 2 0 0)]).toArray 52)) := (Below.refl _ _).alloc (Nat.le_refl _) _
          have hk3 := hk0.below hB3
          clear hB3
          refine wpAnyH_ready (rs := [3]) (by kernel_rfl) (by simp) ?_
          refine AllReadyH.cons rfl (fun K hK => ?_) AllReadyH.nil
          rw [if_pos (by rfl)]
          simp only [List.getElem_toArray, List.getElem_cons_succ, List.getElem_cons_zero]
          refine wp_build3 _ _ _ rfl (sK true false 1 x y) (sK true false y x 1) (sK uu ud 2 0 0) rfl rfl rfl ?_
          refine hK.out _ _ hk3 (fun hHeld => ?_)
          clear hK K
          simp only [Act.put, List.getElem_toArray, List.getElem_cons_succ, List.getElem_cons_zero, List.setIfInBounds_toArray, List.set]
          refine wpAnyH_ready (rs := [5]) (by kernel_rfl) (by simp) ?_
          refine AllReadyH.cons rfl (fun K hK => ?_) AllReadyH.nil
          go_simp
          refine (CVx.out w6 _ hk0 rfl).mono ?_
          rintro e w7 ⟨rfl, hb⟩
          go_wp2_with fail
          refine hK.out _ _ (hk0.below hb.out) (fun hHeld => ?_)
          have HE8 := Hid.mk' (HE7.out.below hb.out)
          clear hK K
          have hkA : Kt w7 sb tb ub ab (sK true false 1 x y) (sK true false y x 1) (sK uu ud 2 0 0) x y := hHeld
          clear hk0 hk3 CVx hS
          refine wpAnyH_take (i := 6) (v := ?_) rfl (by kernel_rfl) (by kernel_rfl) (by kernel_rfl) (fun _ _ _ h => h) (Or.inl ⟨by rfl, ?_⟩) hHeld ?_
          rotate_left
          · (intro w' hS'; go_simp <;> with_reducible rfl)
          simp only [Act.put, List.getElem_toArray, List.getElem_cons_succ, List.getElem_cons_zero, List.setIfInBounds_toArray, List.set]
          refine wpAnyH_take (i := 7) (v := ?_) rfl (by kernel_rfl) (by kernel_rfl) (by kernel_rfl) (fun _ _ _ h => h) (Or.inl ⟨by rfl, ?_⟩) hHeld ?_
          rotate_left
          · (intro w' hS'; go_simp <;> with_reducible rfl)
          simp only [Act.put, List.getElem_toArray, List.getElem_cons_succ, List.getElem_cons_zero, List.setIfInBounds_toArray, List.set]
          refine wpAnyH_take (i := 8) (v := _) rfl (by kernel_rfl) (by kernel_rfl) (by kernel_rfl) (fun _ _ _ h => h) (yieldsIf_load_mid (by rfl) 52 _ rfl sb 0 rfl (sK true false 1 x y).cells _ (fun w' h => h.ls.range) Try.underlying52 rfl size_slt) hHeld ?_
          simp only [Act.put, List.getElem_toArray, List.getElem_cons_succ, List.getElem_cons_zero, List.setIfInBounds_toArray, List.set]
          refine wpAnyH_take (i := 9) (v := _) rfl (by kernel_rfl) (by kernel_rfl) (by kernel_rfl) (fun _ _ _ h => h) (yieldsIf_load_mid (by rfl) 52 _ rfl tb 0 rfl (sK true false y x 1).cells _ (fun w' h => h.lt.range) Try.underlying52 rfl size_slt) hHeld ?_
          simp only [Act.put, List.getElem_toArray, List.getElem_cons_succ, List.getElem_cons_zero, List.setIfInBounds_toArray, List.set]
          refine wpAnyH_take (i := 10) (v := _) rfl (by kernel_rfl) (by kernel_rfl) (by kernel_rfl) (fun _ _ _ h => h) (yieldsIf_load_mid (by rfl) 52 _ rfl ub 0 rfl (sK uu ud 2 0 0).cells _ (fun w' h => h.lu.range) Try.underlying52 rfl size_slt) hHeld ?_
          simp only [Act.put, List.getElem_toArray, List.getElem_cons_succ, List.getElem_cons_zero, List.setIfInBounds_toArray, List.set]
          refine wpAnyH_take (i := 12) (v := ?_) rfl (by kernel_rfl) (by kernel_rfl) (by kernel_rfl) (fun _ _ _ h => h) (Or.inl ⟨by rfl, ?_⟩) hHeld ?_
          rotate_left
          · (intro w' hS'; go_simp <;> with_reducible rfl)
          simp only [Act.put, List.getElem_toArray, List.getElem_cons_succ, List.getElem_cons_zero, List.setIfInBounds_toArray, List.set]
          refine wpAnyH_take (i := 13) (v := ?_) rfl (by kernel_rfl) (by kernel_rfl) (by kernel_rfl) (fun _ _ _ h => h) (Or.inl ⟨by rfl, ?_⟩) hHeld ?_
          rotate_left
          · (intro w' hS'; go_simp <;> with_reducible rfl)
          simp only [Act.put, List.getElem_toArray, List.getElem_cons_succ, List.getElem_cons_zero, List.setIfInBounds_toArray, List.set]
          refine wpAnyH_take (i := 14) (v := _) rfl (by kernel_rfl) (by kernel_rfl) (by kernel_rfl) (fun _ _ _ h => h) (yieldsIf_load_mid (by rfl) 33 _ rfl ab 0 rfl [nu x, nu y] _ (fun w' h => h.ask0) Try.underlying33 rfl size_lnl) hHeld ?_
          simp only [Act.put, List.getElem_toArray, List.getElem_cons_succ, List.getElem_cons_zero, List.setIfInBounds_toArray, List.set]
          have hB11 : Below w7.heap.size w7 (w7.alloc (.cells (scs [(sK true false 1 x y), (sK true false y x 1), (sK uu ud 2 0 0)]).toArray 52)) := (Below.refl _ _).alloc (Nat.le_refl _) _
          have hk11 := hkA.below hB11
          clear hB11
          refine wpAnyH_ready (rs := [11]) (by kernel_rfl) (by simp) ?_
          refine AllReadyH.cons rfl (fun K hK => ?_) AllReadyH.nil
          rw [if_pos (by rfl)]
          simp only [List.getElem_toArray, List.getElem_cons_succ, List.getElem_cons_zero]
          refine wp_build3 _ _ _ rfl (sK true false 1 x y) (sK true false y x 1) (sK uu ud 2 0 0) rfl rfl rfl ?_
          refine hK.out _ _ hk11 (fun hHeld => ?_)
          clear hK K
          simp only [Act.put, List.getElem_toArray, List.getElem_cons_succ, List.getElem_cons_zero, List.setIfInBounds_toArray, List.set]
          refine wpAnyH_ready (rs := [15]) (by kernel_rfl) (by simp) ?_
          refine AllReadyH.cons rfl (fun K hK => ?_) AllReadyH.nil
          go_simp
          refine (CPx.out w7 _ x y HXI.out HYI.out rfl).mono ?_
          rintro e w8 ⟨rfl, hb⟩
          go_wp2_with fail
          refine hK.out _ _ (hkA.below hb.out) (fun hHeld => ?_)
          have HE9 := Hid.mk' (HE8.out.below hb.out)
          clear hK K
          have hkB : Kt w8 sb tb ub ab (sK true false 1 x y) (sK true false y x 1) (sK uu ud 2 0 0) x y := hHeld
          clear hkA hk11
          refine wpAnyH_take (i := 16) (v := ?_) rfl (by kernel_rfl) (by kernel_rfl) (by kernel_rfl) (fun _ _ _ h => h) (Or.inl ⟨by rfl, ?_⟩) hHeld ?_
          rotate_left
          · (intro w' hS'; go_simp <;> with_reducible rfl)
          simp only [Act.put, List.getElem_toArray, List.getElem_cons_succ, List.getElem_cons_zero, List.setIfInBounds_toArray, List.set]
          refine wpAnyH_take (i := 17) (v := ?_) rfl (by kernel_rfl) (by kernel_rfl) (by kernel_rfl) (fun _ _ _ h => h) (Or.inl ⟨by rfl, ?_⟩) hHeld ?_
          rotate_left
          · (intro w' hS'; go_simp <;> with_reducible rfl)
          simp only [Act.put, List.getElem_toArray, List.getElem_cons_succ, List.getElem_cons_zero, List.setIfInBounds_toArray, List.set]
          refine wpAnyH_take (i := 18) (v := ?_) rfl (by kernel_rfl) (by kernel_rfl) (by kernel_rfl) (fun _ _ _ h => h) (Or.inl ⟨by rfl, ?_⟩) hHeld ?_
          rotate_left
          · (intro w' hS'; go_simp <;> with_reducible rfl)
          simp only [Act.put, List.getElem_toArray, List.getElem_cons_succ, List.getElem_cons_zero, List.setIfInBounds_toArray, List.set]
          refine wpAnyH_take (i := 19) (v := _) rfl (by kernel_rfl) (by kernel_rfl) (by kernel_rfl) (fun _ _ _ h => h) (yieldsIf_load_mid (by rfl) 52 _ rfl sb 0 rfl (sK true false 1 x y).cells _ (fun w' h => h.ls.range) Try.underlying52 rfl size_slt) hHeld ?_
          simp only [Act.put, List.getElem_toArray, List.getElem_cons_succ, List.getElem_cons_zero, List.setIfInBounds_toArray, List.set]
          refine wpAnyH_take (i := 20) (v := _) rfl (by kernel_rfl) (by kernel_rfl) (by kernel_rfl) (fun _ _ _ h => h) (yieldsIf_load_mid (by rfl) 52 _ rfl tb 0 rfl (sK true false y x 1).cells _ (fun w' h => h.lt.range) Try.underlying52 rfl size_slt) hHeld ?_
          simp only [Act.put, List.getElem_toArray, List.getElem_cons_succ, List.getElem_cons_zero, List.setIfInBounds_toArray, List.set]
          refine wpAnyH_take (i := 21) (v := _) rfl (by kernel_rfl) (by kernel_rfl) (by kernel_rfl) (fun _ _ _ h => h) (yieldsIf_load_mid (by rfl) 52 _ rfl ub 0 rfl (sK uu ud 2 0 0).cells _ (fun w' h => h.lu.range) Try.underlying52 rfl size_slt) hHeld ?_
          simp only [Act.put, List.getElem_toArray, List.getElem_cons_succ, List.getElem_cons_zero, List.setIfInBounds_toArray, List.set]
          refine wpAnyH_take (i := 23) (v := ?_) rfl (by kernel_rfl) (by kernel_rfl) (by kernel_rfl) (fun _ _ _ h => h) (Or.inl ⟨by rfl, ?_⟩) hHeld ?_
          rotate_left
          · (intro w' hS'; go_simp <;> with_reducible rfl)
          simp only [Act.put, List.getElem_toArray, List.getElem_cons_succ, List.getElem_cons_zero, List.setIfInBounds_toArray, List.set]
          refine wpAnyH_take (i := 24) (v := ?_) rfl (by kernel_rfl) (by kernel_rfl) (by kernel_rfl) (fun _ _ _ h => h) (Or.inl ⟨by rfl, ?_⟩) hHeld ?_
          rotate_left
          · (intro w' hS'; go_simp <;> with_reducible rfl)
          simp only [Act.put, List.getElem_toArray, List.getElem_cons_succ, List.getElem_cons_zero, List.setIfInBounds_toArray, List.set]
          refine wpAnyH_take (i := 25) (v := _) rfl (by kernel_rfl) (by kernel_rfl) (by kernel_rfl) (fun _ _ _ h => h) (yieldsIf_load_mid (by rfl) 33 _ rfl ab 2 rfl [nu 0, nu 1] _ (fun w' h => h.ask1) Try.underlying33 rfl size_lnl) hHeld ?_
          simp only [Act.put, List.getElem_toArray, List.getElem_cons_succ, List.getElem_cons_zero, List.setIfInBounds_toArray, List.set]
          have hB22 : Below w8.heap.size w8 (w8.alloc (.cells (scs [(sK true false 1 x y), (sK true false y x 1), (sK uu ud 2 0 0)]).toArray 52)) := (Below.refl _ _).alloc (Nat.le_refl _) _
          have hk22 := hkB.below hB22
          clear hB22
          refine wpAnyH_ready (rs := [22]) (by kernel_rfl) (by simp) ?_
          refine AllReadyH.cons rfl (fun K hK => ?_) AllReadyH.nil
          rw [if_pos (by rfl)]
          simp only [List.getElem_toArray, List.getElem_cons_succ, List.getElem_cons_zero]
          refine wp_build3 _ _ _ rfl (sK true false 1 x y) (sK true false y x 1) (sK uu ud 2 0 0) rfl rfl rfl ?_
          refine hK.out _ _ hk22 (fun hHeld => ?_)
          clear hK K
          simp only [Act.put, List.getElem_toArray, List.getElem_cons_succ, List.getElem_cons_zero, List.setIfInBounds_toArray, List.set]
          refine wpAnyH_ready (rs := [26]) (by kernel_rfl) (by simp) ?_
          refine AllReadyH.cons rfl (fun K hK => ?_) AllReadyH.nil
          go_simp
          refine (CPx.out w8 _ 0 1 i64_0 i64_1 rfl).mono ?_
          rintro e w9 ⟨rfl, hb⟩
          go_wp2_with fail
          refine hK.out _ _ (hkB.below hb.out) (fun hHeld => ?_)
          have HE10 := Hid.mk' (HE9.out.below hb.out)
          clear hK K
          refine wpAnyH_take (i := 27) (v := ?_) rfl (by kernel_rfl) (by kernel_rfl) (by kernel_rfl) (fun _ _ _ h => h) (Or.inl ⟨by rfl, ?_⟩) hHeld ?_
          rotate_left
          · (intro w' hS'; go_simp <;> with_reducible rfl)
          simp only [Act.put, List.getElem_toArray, List.getElem_cons_succ, List.getElem_cons_zero, List.setIfInBounds_toArray, List.set]
          refine wpAnyH_take (i := 28) (v := ?_) rfl (by kernel_rfl) (by kernel_rfl) (by kernel_rfl) (fun _ _ _ h => h) (Or.inl ⟨by rfl, ?_⟩) hHeld ?_
          rotate_left
          · (intro w' hS'; go_simp <;> with_reducible rfl)
          simp only [Act.put, List.getElem_toArray, List.getElem_cons_succ, List.getElem_cons_zero, List.setIfInBounds_toArray, List.set]
          refine wpAnyH_done (by kernel_rfl) ?_ _
          clear hHeld
          clear hkB hk22 CPx
          go_wp2
          go_roundw
          case rel => exact ⟨k + 1, by omega, by go_num, HE10⟩
          case measure => simp [intOf]; omega
        · have hkI : ¬ (k : Int) < 8 := by omega
          go_wp2
          go_roundw
          case rel => exact ⟨i + 1, by omega, by go_num, HE⟩
          case measure => simp [intOf]; omega
    · have hiI : ¬ (i : Int) < 8 := by omega
      go_wp2
      go_ret
      exact ⟨rfl, HE.out.bel⟩

end Wk
end Go.Proofs.Ytbkcpjgaoncioaa
