import Derived.Test.YtcleeidfiaafcaaTreV
import Derived.Test.YtcleeidfiaafcaaTreI
/- The outright law's own rows of children and of all below. -/
namespace Go.Proofs.Ytcleeidfiaafcaa
set_option linter.ambiguousOpen false
open Go.RowKit
namespace Tr
open An Rg Ft Lv
set_option linter.unusedSimpArgs false
set_option linter.unusedVariables false
attribute [local go_sem] Oper.semAt_some

/-- Ints that lie there. -/
def RdJ (w : World) (v : Value) (l : List Int) : Prop :=
  ∃ a cap, v = .slice a l.length cap ∧ l.length ≤ cap ∧ cap ≤ maxLen ∧ (0 < l.length → ∃ g o, a = some ⟨g, o, none⟩ ∧ g < w.heap.size ∧ ∀ k i, l[k]? = some i → w.cell? ⟨g, o + k, none⟩ = some (nu i))

theorem rdJ_own {w : World} {base n : Nat} {v : Value} {l : List Int} (h : w.ownsRow base 3 1 v n (l.map nu)) : RdJ w v l := by
  have hl := h.1
  simp only [List.length_map, Nat.mul_one] at hl
  subst hl
  obtain ⟨a, cap, hv, h1, h2, h3⟩ := Nm.own_shape h
  refine ⟨a, cap, hv, h1, h2, fun h0 => ?_⟩
  obtain ⟨g, rfl⟩ := h3 h0
  subst hv
  refine ⟨g, 0, rfl, (h.lt g rfl).2, fun k i hk => ?_⟩
  have hkl := (List.getElem?_eq_some_iff.1 hk).1
  have := h.cellAt (g := g) (cap := cap) k (by omega)
  rw [Nat.zero_add, this, List.getElem?_map, hk]
  rfl

theorem RdJ.below {w w' : World} {v : Value} {l : List Int} (h : RdJ w v l) (hb : Below w.heap.size w w') : RdJ w' v l := by
  obtain ⟨a, cap, rfl, h1, h2, h3⟩ := h
  refine ⟨a, cap, rfl, h1, h2, fun h0 => ?_⟩
  obtain ⟨g, o, rfl, hg, hc⟩ := h3 h0
  exact ⟨g, o, rfl, Nat.lt_of_lt_of_le hg hb.size, fun k i hk => (hb.cell (p := ⟨g, o + k, none⟩) hg).trans (hc k i hk)⟩

theorem kidsU_take {up : List Int} {k : Nat} {x : Int} (hx : up[k]? = some x) (i cut : Int) : kidsU (up.take (k + 1)) i cut = kidsU (up.take k) i cut ++ (if x = i ∧ (k : Int) ≠ cut then [k] else []) := by
  have hk := (List.getElem?_eq_some_iff.1 hx).1
  have h1 : up.take (k + 1) = up.take k ++ [x] := by
    rw [List.take_add_one, hx]
    rfl
  rw [h1, kidsU_snoc, List.length_take, Nat.min_eq_left (Nat.le_of_lt hk)]

theorem kidsU_le (up : List Int) (i cut : Int) : (kidsU up i cut).length ≤ up.length := by
  unfold kidsU
  have := List.length_filter_le (fun k => decide (up.getD k 0 = i ∧ (k : Int) ≠ cut)) (List.range up.length)
  rwa [List.length_range] at this

set_option maxRecDepth 100000 in
set_option maxHeartbeats 4000000 in
theorem kids_any (v : Value) (up : List Int) (i cut : Int) (w : World) (hR : RdJ w v up) (hup : up.length ≤ 32) :
    Calls Try.prog 12 #[v, nu i, nu cut] w fun e w' => ∃ v', e = .returned v' ∧ w'.ownsRow w.heap.size 3 1 v' (kidsU up i cut).length ((kidsU up i cut).map nun) ∧ Below w.heap.size w w' := by
  obtain ⟨i0, ji, hz0, hz1, hz2⟩ := info_parts info_int
  obtain ⟨av, cv, rfl, hc1, hc2, hcell⟩ := hR
  obtain ⟨N, hN⟩ : ∃ N, up.length = N := ⟨_, rfl⟩
  rw [hN] at hc1 hup ⊢
  unfold maxLen at hc2
  have HN := Hid.mk' hN
  have HC := Hid.mk' hcell
  have hcI : (cv : Int) ≤ 9223372036854775807 := by omega
  clear hN hcell
  go_enter Try.func12, Try.ntmps12
  go_wp2_with fail
  go_loopw [7, 8] (fun lv iv wr => ∃ (k : Nat) (a : Option Addr) (n c : Nat), k ≤ N ∧ n ≤ k ∧ iv = nun k ∧ lv = .slice a n c ∧ Hid ((kidsU (up.take k) i cut).length = n) ∧ Hid (wr.ownsRow w.heap.size 3 1 (.slice a n c) n ((kidsU (up.take k) i cut).map nun)) ∧ Hid (Below w.heap.size w wr)) (fun _ iv _ => N - (intOf iv).toNat)
  case atStart => exact ⟨0, none, 0, 0, Nat.zero_le _, by omega, rfl, rfl, rfl, World.ownsRow_nil _ _ _ _, Below.refl _ _⟩
  case round =>
    obtain ⟨k, a, n, c, hk, hn, rfl, rfl, HR, HO, HB⟩ := hrel
    by_cases hlt : k < N
    · have hkI : (k : Int) < (N : Int) := by omega
      obtain ⟨gv, ov, rfl, hgl, hcl⟩ := HC.out (by rw [HN.out]; omega)
      obtain ⟨x, hx⟩ : ∃ x, up[k]? = some x := ⟨_, List.getElem?_eq_getElem (by rw [HN.out]; exact hlt)⟩
      have hcx := (HB.out.cell (p := ⟨gv, ov + k, none⟩) hgl).trans (hcl k x hx)
      have HT := Hid.mk' (kidsU_take hx i cut)
      clear hcl hx
      by_cases hxi : x = i
      · subst hxi
        by_cases hkc : (k : Int) = cut
        · subst hkc
          have HT2 : Hid (kidsU (up.take (k + 1)) x k = kidsU (up.take k) x k) := by
            show _ = _
            rw [HT.out, if_neg (by simp), List.append_nil]
          clear HT
          go_wp2
          go_roundw
          case rel => exact ⟨k + 1, a, n, c, by omega, by omega, by go_num, rfl, by rw [HT2.out]; exact HR, by rw [HT2.out]; exact HO, HB⟩
          case measure => simp [intOf]; omega
        · have HT2 : Hid (kidsU (up.take (k + 1)) x cut = kidsU (up.take k) x cut ++ [k]) := by
            show _ = _
            rw [HT.out, if_pos ⟨rfl, hkc⟩]
          have HO1 : Hid ((wr.alloc (.cells #[nun k] 3)).ownsRow w.heap.size 3 1 (.slice a n c) n ((kidsU (up.take k) x cut).map nun)) := HO.out.alloc _
          have HB1 : Hid (Below w.heap.size w (wr.alloc (.cells #[nun k] 3))) := HB.out.alloc HB.out.size _
          clear HT HO
          go_wp2_with (first | (at_builtin; refine Nm.wpList_append_keep _ rfl _ _ 22 rfl w.heap.size 3 i0 (.int .i64 0) 1 8 Try.underlying22 ji hz0 hz1 hz2 rfl (by decide) _ n _ rfl HO1.out ⟨wr.heap.size, 0, none⟩ 1 1 [nun k] rfl rfl (cell_one_new _ _ _) (by simp [Value.oneCell']) (by unfold maxLen; omega) (by omega) HB1.out.size (by decide) ?_; intro v4 w4 hg4; obtain ⟨ho4, hgr4, _, _⟩ := hg4; obtain ⟨a4, c4, rfl, _⟩ := Nm.own_shape ho4; have HO4 := Hid.mk' ho4; have HB4 : Hid (Below w.heap.size w w4) := (HB1.out.grown hgr4 HB1.out.size (fun r e => (HO1.out.lt r e).1)); clear ho4 hgr4 hcx) | fail)
          go_roundw
          case rel => exact ⟨k + 1, a4, n + 1, c4, by omega, by omega, by go_num, rfl, by rw [HT2.out, List.length_append, HR.out]; exact rfl, by rw [HT2.out, List.map_append]; exact HO4, HB4⟩
          case measure => simp [intOf]; omega
      · have HT2 : Hid (kidsU (up.take (k + 1)) i cut = kidsU (up.take k) i cut) := by
          show _ = _
          rw [HT.out, if_neg (fun e => hxi e.1), List.append_nil]
        clear HT
        go_wp2
        go_roundw
        case rel => exact ⟨k + 1, a, n, c, by omega, by omega, by go_num, rfl, by rw [HT2.out]; exact HR, by rw [HT2.out]; exact HO, HB⟩
        case measure => simp [intOf]; omega
    · have hkI : ¬ (k : Int) < (N : Int) := by omega
      have hkN : Hid (kidsU (up.take k) i cut = kidsU up i cut) := by
        show _ = _
        rw [List.take_of_length_le (by rw [HN.out]; omega)]
      go_wp2
      go_ret
      exact ⟨_, rfl, by rw [← hkN.out, HR.out]; exact HO.out, HB.out⟩

theorem pre_len {ch : Nat → List Nat} {n : Nat} (hnd : ∀ i, i < n → (ch i).Nodup) (hlt : ∀ i k, i < n → k ∈ ch i → i < k ∧ k < n) (hun : ∀ i j k, i < n → j < n → k ∈ ch i → k ∈ ch j → i = j) : ∀ (f i : Nat), i < n → (pre ch f i).Nodup
  | 0, i, _ => by simp [pre]
  | f + 1, i, hi => by
    unfold pre
    refine List.nodup_cons.2 ⟨fun hm => ?_, ?_⟩
    · obtain ⟨k, hk, hx⟩ := List.mem_flatMap.1 hm
      have h1 := hlt i k hi hk
      have h2 := pre_ge hlt f k h1.2 i hx
      omega
    · have key : ∀ l : List Nat, (∀ k ∈ l, k ∈ ch i) → l.Nodup → (l.flatMap (pre ch f)).Nodup := by
        intro l
        induction l with
        | nil => intro _ _; simp
        | cons k r ih =>
          intro h1 h2
          obtain ⟨hkr, hr⟩ := List.nodup_cons.1 h2
          rw [List.flatMap_cons]
          refine List.nodup_append.2 ⟨pre_len hnd hlt hun f k (hlt i k hi (h1 k (by simp))).2, ih (fun y hy => h1 y (List.mem_cons_of_mem _ hy)) hr, fun x hx y hy e => ?_⟩
          subst e
          obtain ⟨z, hz, hxz⟩ := List.mem_flatMap.1 hy
          exact pre_apart hlt hun hi (h1 k (by simp)) (h1 z (List.mem_cons_of_mem _ hz)) (fun e => hkr (e ▸ hz)) f (x + 1) x (by omega) hx hxz
      exact key _ (fun k hk => hk) (hnd i hi)

/-- All below a slot: each once. -/
theorem preU_ok {up : List Int} (hu : Ups up) (hup : up.length ≤ 32) (cut : Int) (f i : Nat) (hi : i < up.length) : (pre (fun j => kidsU up j cut) f i).Nodup ∧ ∀ x ∈ pre (fun j => kidsU up j cut) f i, x < 32 := by
  have hlt : ∀ i k, i < up.length → k ∈ kidsU up i cut → i < k ∧ k < up.length := fun i k _ hk => kidsU_lt hu hk
  refine ⟨pre_len (fun i _ => kidsU_nd up i cut) hlt (fun i j k _ _ h1 h2 => ?_) f i hi, fun x hx => ?_⟩
  · have a := (mem_kidsU.1 h1).2.1
    have b := (mem_kidsU.1 h2).2.1
    omega
  · have := pre_ge hlt f i hi x hx
    omega
end Tr
end Go.Proofs.Ytcleeidfiaafcaa
