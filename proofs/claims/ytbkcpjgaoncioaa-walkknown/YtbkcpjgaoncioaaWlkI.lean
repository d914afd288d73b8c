/- The law's slots: each once, out of any numbers; what is done to a slot. -/
import Derived.Test.YtbkcpjgaoncioaaWlkH
import Derived.RangeFuncBox
namespace Go.Proofs.Ytbkcpjgaoncioaa
set_option linter.ambiguousOpen false
open Go.RowKit
namespace Wk
open An Ft Lv
set_option linter.unusedSimpArgs false
set_option linter.unusedVariables false

/-- Ints that lie there. -/
def RdW (w : World) (v : Value) (l : List Int) : Prop :=
  ∃ a cap, v = .slice a l.length cap ∧ l.length ≤ cap ∧ cap ≤ maxLen ∧ (0 < l.length → ∃ g o, a = some ⟨g, o, none⟩ ∧ g < w.heap.size ∧ ∀ k i, l[k]? = some i → w.cell? ⟨g, o + k, none⟩ = some (nu i))

def seenL (out : List Nat) : List Value := (List.range 32).map (fun k => .bool (decide (k ∈ out)))

/-- Which were seen. -/
def Seen (w : World) (b : Nat) (out : List Nat) : Prop := w.heap[b]? = some (.cells (seenL out).toArray 73)

theorem Seen.at {w : World} {b : Nat} {out : List Nat} (h : Seen w b out) (k : Nat) (hk : k < 32) : w.cell? ⟨b, k, none⟩ = some (.bool (decide (k ∈ out))) := by
  rw [cell_of_row w b k _ _ _ h]
  simp [seenL, hk]

theorem Seen.open {w : World} {b : Nat} {out : List Nat} (h : Seen w b out) (k : Nat) : w.frozen? ⟨b, k, none⟩ = false := by
  unfold Seen at h
  simp [World.frozen?, h]

theorem Seen.set {w : World} {b : Nat} {out : List Nat} (h : Seen w b out) (k : Nat) (hk : k < 32) : Seen (w.setCell ⟨b, k, none⟩ (.bool true)) b (out ++ [k]) := by
  unfold Seen at h ⊢
  rw [heap_setCell_same _ b k _ _ _ h]
  have e : (seenL out).toArray.setIfInBounds k (.bool true) = (seenL (out ++ [k])).toArray := by
    rw [List.setIfInBounds_toArray]
    congr 1
    apply List.ext_getElem?
    intro j
    rw [List.getElem?_set]
    by_cases hj : j < 32
    · by_cases e : k = j
      · subst e
        simp [seenL, hj]
      · simp [seenL, hj, e, Ne.symm e]
    · have h1 : ¬ j < (seenL out).length := by simp [seenL]; omega
      have h2 : ¬ j < (seenL (out ++ [k])).length := by simp [seenL]; omega
      rw [if_neg (by omega), List.getElem?_eq_none (by omega), List.getElem?_eq_none (by omega)]
  rw [e]

theorem ret_nuW {a b : Int} (h : a = b) : Ending.returned (nu a) = Ending.returned (nu b) := by rw [h]

theorem pickW (k : Int) (n : Nat) (w : World) (hn : 0 < n) (hn2 : n ≤ 4611686018427387904) (hk : -9223372036854775808 ≤ k ∧ k ≤ 9223372036854775807) :
    Calls Try.prog 18 #[nu k, nu n] w fun e w' => e = .returned (nu (k % (n : Int))) ∧ w' = w := by
  have d1 : (decide ((n : Int) < 1)) = false := by simp; omega
  have e1 := Int.emod_add_mul_ediv k n
  have e2 := Int.emod_nonneg k (b := (n : Int)) (by omega)
  have e3 := Int.emod_lt_of_pos k (b := (n : Int)) (by omega)
  have te : k.tmod n = k % (n : Int) ∨ k.tmod n = k % (n : Int) - n := by
    rw [Int.tmod_eq_emod]
    split
    · left; omega
    · right; simp
  clear e1
  by_cases h : k.tmod n < 0
  · have HT : Hid (k.tmod n + n = k % (n : Int)) := by
      show _ = _
      omega
    have b1 : -(n : Int) ≤ k.tmod n := by omega
    clear te e2 e3
    go_enter Try.func18, Try.ntmps18
    go_wp2
    go_ret
    exact ⟨ret_nuW HT.out, rfl⟩
  · have HT : Hid (k.tmod n = k % (n : Int)) := by
      show _ = _
      omega
    clear te e2 e3
    go_enter Try.func18, Try.ntmps18
    go_wp2
    go_ret
    exact ⟨ret_nuW HT.out, rfl⟩


set_option maxRecDepth 100000 in
set_option maxHeartbeats 4000000 in
theorem slots_any (v : Value) (l : List Int) (w : World) (hR : RdW w v l) (hl : ∀ x ∈ l, I64 x) :
    Calls Try.prog 15 #[v] w fun e w' => ∃ v' : Value, ∃ L : List Nat, e = .returned v' ∧ w'.ownsRow w.heap.size 3 1 v' L.length (L.map nun) ∧ L.Nodup ∧ (∀ x ∈ L, x < 32) ∧ L.length ≤ 7 ∧ Below w.heap.size w w' := by
  obtain ⟨i0, ji, hz0, hz1, hz2⟩ := info_parts info_int
  obtain ⟨av, cv, rfl, hc1, hc2, hcell⟩ := hR
  obtain ⟨N, hN⟩ : ∃ N, l.length = N := ⟨_, rfl⟩
  rw [hN] at hc1 hcell ⊢
  unfold maxLen at hc2
  have hcI : (cv : Int) ≤ 9223372036854775807 := by omega
  have HCL : Hid (∀ n x wx, l[n]? = some x → Below w.heap.size w wx → ∃ g o, av = some ⟨g, o, none⟩ ∧ wx.cell? ⟨g, o + n, none⟩ = some (nu x)) := fun n x wx hx hb => by
    obtain ⟨g, o, e1, e2, e3⟩ := hcell (by have := (List.getElem?_eq_some_iff.1 hx).1; omega)
    exact ⟨g, o, e1, (hb.cell (p := ⟨g, o + n, none⟩) e2).trans (e3 n x hx)⟩
  have HN := Hid.mk' hN
  have HI := Hid.mk' hl
  obtain ⟨sb, hsb⟩ : ∃ sb, w.heap.size = sb := ⟨_, rfl⟩
  obtain ⟨W0, hW0⟩ : ∃ W0, w.alloc (.cells (seenL []).toArray 73) = W0 := ⟨_, rfl⟩
  have hS0 : Seen W0 sb [] := by rw [← hW0, ← hsb]; exact heap_alloc_new _ _
  have hB0 : Below w.heap.size w W0 := by rw [← hW0]; exact (Below.refl _ _).alloc (Nat.le_refl _) _
  have HW0 : Hid (w.alloc (.cells #[.bool false, .bool false, .bool false, .bool false, .bool false, .bool false, .bool false, .bool false, .bool false, .bool false, .bool false, .bool false, .bool false, .bool false, .bool false, .bool false, .bool false, .bool false, .bool false, .bool false, .bool false, .bool false, .bool false, .bool false, .bool false, .bool false, .bool false, .bool false, .bool false, .bool false, .bool false, .bool false] 73) = W0) := hW0
  have HSB := Hid.mk' hsb
  have hle : w.heap.size ≤ sb := by omega
  have cK : Hid (∀ wx x, I64 x → Calls Try.prog 18 #[nu x, nu 32] wx fun e w' => e = .returned (nu (x % 32)) ∧ w' = wx) := fun wx x hx => pickW x 32 wx (by decide) (by decide) hx
  have H0 : Hid (∃ out : List Nat, out.length = 0 ∧ W0.ownsRow w.heap.size 3 1 (.slice none 0 0) 0 (out.map nun) ∧ Seen W0 sb out ∧ out.Nodup ∧ (∀ x ∈ out, x < 32) ∧ Below w.heap.size w W0) := ⟨[], rfl, World.ownsRow_nil _ _ _ _, hS0, by simp, by simp, hB0⟩
  clear hcell hN hl hW0 hS0 hB0 hsb
  go_enter Try.func15, Try.ntmps15
  go_upto_region 3 with fail
  rw [HW0.out, HSB.out]
  go_wp2
  go_loopw [3, 5] (fun ov iv wr => ∃ (i m : Nat) (a : Option Addr) (c : Nat), i ≤ N ∧ m ≤ 7 ∧ iv = nun i ∧ ov = .slice a m c ∧ Hid (∃ out : List Nat, out.length = m ∧ wr.ownsRow w.heap.size 3 1 (.slice a m c) m (out.map nun) ∧ Seen wr sb out ∧ out.Nodup ∧ (∀ x ∈ out, x < 32) ∧ Below w.heap.size w wr)) (fun _ iv _ => N - (intOf iv).toNat)
  case atStart => exact ⟨0, 0, none, 0, by omega, by omega, rfl, rfl, H0⟩
  case round =>
    clear H0
    obtain ⟨i, m, a, c, hi, hm, rfl, rfl, HO⟩ := hrel
    by_cases hgo : i < N ∧ m ≤ 6
    · obtain ⟨hlt, h6⟩ := hgo
      have hltI : (i : Int) < (N : Int) := by omega
      have h6I : (m : Int) ≤ 6 := by omega
      obtain ⟨out, ho1, ho2, ho3, ho4, ho5, ho6⟩ := HO.out
      obtain ⟨x, hx⟩ : ∃ x, l[i]? = some x := ⟨_, List.getElem?_eq_getElem (by rw [HN.out]; exact hlt)⟩
      have hxI := HI.out x (List.mem_of_getElem? hx)
      obtain ⟨g, o, rfl, qc⟩ := HCL.out i x wr hx ho6
      have c1 := Hid.mk' (cK.out wr x hxI)
      obtain ⟨k, hk, hk32⟩ : ∃ k : Nat, x % 32 = k ∧ k < 32 := ⟨(x % 32).toNat, by omega, by omega⟩
      rw [hk] at c1
      have hkI : (k : Int) < 32 := by omega
      have hk0 : (0 : Int) ≤ (k : Int) := by omega
      have qs := ho3.at k hk32
      have qf := ho3.open k
      have HI0 : (0 : Int) ≤ (i : Int) := by omega
      by_cases hin : k ∈ out
      · rw [decide_eq_true hin] at qs
        clear hx hxI hin ho1 ho2 ho3 ho4 ho5 ho6 hk
        go_wp2_with fail
        refine c1.out.mono ?_
        rintro e w2 ⟨rfl, rfl⟩
        go_wp2
        go_roundw
        case rel => exact ⟨i + 1, m, a, c, by omega, by omega, by go_num, rfl, HO⟩
        case measure => simp [intOf]; omega
      · rw [decide_eq_false hin] at qs
        have HS2 := Hid.mk' (ho3.set k hk32)
        have hnb : (Value.slice a m c).ownBlock ≠ some sb := fun e => by
          obtain ⟨c', hc', _⟩ := own_cellsT ho2 e
          have := ho3
          unfold Seen at this
          rw [hc'] at this
          simp at this
        have HO2 : Hid ((wr.setCell ⟨sb, k, none⟩ (.bool true)).ownsRow w.heap.size 3 1 (.slice a m c) m (out.map nun)) := Nm.own_setOther ho2 ⟨sb, k, none⟩ _ hnb
        have HB2 : Hid (Below w.heap.size w (wr.setCell ⟨sb, k, none⟩ (.bool true))) := ho6.setCell (p := ⟨sb, k, none⟩) hle _
        have hs2 := ho6.size
        have HND : Hid ((out ++ [k]).Nodup ∧ (∀ x ∈ out ++ [k], x < 32) ∧ (out ++ [k]).length = m + 1) := by
          refine ⟨List.nodup_append.2 ⟨ho4, by simp, fun y hy z hz e => hin (by simp at hz; subst hz; exact e ▸ hy)⟩, fun y hy => ?_, by simp [ho1]⟩
          rcases List.mem_append.1 hy with hy | hy
          · exact ho5 y hy
          · simp at hy
            omega
        clear hx hxI hin ho1 ho2 ho3 ho4 ho5 ho6 hk HO hnb
        go_wp2_with fail
        refine c1.out.mono ?_
        rintro e w2 ⟨rfl, rfl⟩
        go_upto_region 9 with fail
        clear qs qf qc
        generalize hw3 : w2.setCell ⟨sb, k, none⟩ (.bool true) = w3 at *
        have hs3 : w.heap.size ≤ w3.heap.size := HB2.out.size
        go_wp2_with (first | (at_builtin; refine wpList_append_own _ rfl _ _ 35 rfl w.heap.size 3 i0 (.int .i64 0) 1 8 Try.underlying35 ji hz0 hz1 hz2 rfl (by decide) _ _ _ rfl (HO2.out.alloc _) ⟨w3.heap.size, 0, none⟩ 1 1 [nun k] rfl rfl (cell_one_new _ _ _) (by simp [Value.oneCell']) (by unfold maxLen; omega) (by omega) (by simp; omega) ?_; intro v4 w4 ho4 hg4 _; have HB4 : Hid (Below w.heap.size w w4) := Below.grown (HB2.out.alloc HB2.out.size _) hg4 (by have := HB2.out.size; simp; omega) (fun k hk => (HO2.out.lt k hk).1); have HS4 : Hid (Seen w4 sb (out ++ [k])) := ((hg4.block sb (by rw [World.size_alloc]; have := (Array.getElem?_eq_some_iff.1 HS2.out).1; omega) (fun e => by obtain ⟨c', hc', _⟩ := own_cellsT HO2.out e.symm; have h9 := HS2.out; unfold Seen at h9; rw [hc'] at h9; simp at h9)).trans ((heap_alloc_old _ _ (Array.getElem?_eq_some_iff.1 HS2.out).1).trans HS2.out)); obtain ⟨g4, c4, rfl⟩ := ownsRow_succ ho4; have HO4 : Hid (w4.ownsRow w.heap.size 3 1 (.slice (some ⟨g4, 0, none⟩) (m + 1) c4) (m + 1) ((out ++ [k]).map nun)) := (by rw [List.map_append]; exact ho4); clear ho4 hg4) | fail)
        go_roundw
        case rel => exact ⟨i + 1, m + 1, _, c4, by omega, by omega, by go_num, rfl, out ++ [k], HND.out.2.2, HO4.out, HS4.out, HND.out.1, HND.out.2.1, HB4.out⟩
        case measure => simp [intOf]; omega
    · obtain ⟨out, ho1, ho2, ho3, ho4, ho5, ho6⟩ := HO.out
      have HEN : Hid (wr.ownsRow w.heap.size 3 1 (.slice a m c) out.length (out.map nun) ∧ out.Nodup ∧ (∀ x ∈ out, x < 32) ∧ out.length ≤ 7 ∧ Below w.heap.size w wr) := ⟨by rw [ho1]; exact ho2, ho4, ho5, by omega, ho6⟩
      clear ho1 ho2 ho3 ho4 ho5 ho6 HO
      by_cases hlt : i < N
      · have hltI : (i : Int) < (N : Int) := by omega
        have h6I : ¬ (m : Int) ≤ 6 := by omega
        go_wp2
        go_ret
        exact ⟨_, rfl, out, HEN.out⟩
      · have hltI : ¬ (i : Int) < (N : Int) := by omega
        go_wp2
        go_ret
        exact ⟨_, rfl, out, HEN.out⟩
end Wk
end Go.Proofs.Ytbkcpjgaoncioaa
