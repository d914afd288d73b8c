import Derived.Test.YteclbmmhidmklaaDoorHepQ
import Derived.Deep.AppendLies
/- The document's heap: Pairs, Set. -/
namespace Go.Proofs.YteclbmmhidmklaaDoor
set_option linter.ambiguousOpen false
open Go.RowKit
namespace Hh
open Ft
set_option linter.unusedSimpArgs false
set_option linter.unusedVariables false
attribute [local go_sem] Oper.semAt_some

theorem infoI : (Tryd.prog.info? 3).map (fun i => (i.zero, i.size, i.bytes)) = some (some (.int .i64 0), 1, 8) := by kernel_rfl

theorem prs_at (L : List It) (k : Nat) (x : It) (hx : L[k]? = some x) : prs (L.take (k + 1)) = prs (L.take k) ++ [x.i, x.k] := by
  obtain ⟨hk, hxe⟩ := List.getElem?_eq_some_iff.1 hx
  have e : L.take (k + 1) = L.take k ++ [x] := by rw [← hxe]; exact List.take_succ_eq_append_getElem hk
  rw [e, prs_snoc]

set_option maxRecDepth 100000 in
set_option maxHeartbeats 4000000 in
theorem pairsH_ref (base : Nat) (w : World) (t : Nat) (N : Int) (lv : Value) (L : List It) (h : RHp base w t N lv L) (hl : L.length ≤ 100000) :
    Calls Tryd.prog 9 #[ptr t] w fun e w' => ∃ a c, e = .returned (.slice a (2 * L.length) c) ∧ Hid (w'.ownsRow w.heap.size 3 1 (.slice a (2 * L.length) c) (2 * L.length) ((prs L).map nu) ∧ Below w.heap.size w w') := by
  obtain ⟨i0, ji, hz0, hz1, hz2⟩ := info_parts infoI
  obtain ⟨a, c, rfl, hc1, hc2⟩ := h.shape
  obtain ⟨n, hn⟩ : ∃ n, L.length = n := ⟨_, rfl⟩
  have hgl : ∀ g, (Value.slice a L.length c).ownBlock = some g → g < w.heap.size := fun g e => (h.row.lt g e).2
  rw [hn] at hc1 h hl hgl ⊢
  unfold maxLen at hc2
  have hcI : (c : Int) ≤ 9223372036854775807 := by omega
  have HR : Hid (∀ wx, Below w.heap.size w wx → RHp base wx t N (.slice a n c) L) := fun wx hb => h.below hb
  have HN := Hid.mk' hn
  have htl := h.tlt
  have HGL := Hid.mk' hgl
  clear h hn hgl
  go_enter Tryd.func9, Tryd.ntmps9
  go_wp2
  go_loopw [3, 4] (fun lv kv wr => ∃ (k : Nat) (a' : Option Addr) (c' : Nat), k ≤ n ∧ kv = nun k ∧ lv = .slice a' (2 * k) c' ∧ Hid (wr.ownsRow w.heap.size 3 1 (.slice a' (2 * k) c') (2 * k) ((prs (L.take k)).map nu) ∧ Below w.heap.size w wr)) (fun _ kv _ => n - (intOf kv).toNat)
  case atStart => exact ⟨0, none, 0, Nat.zero_le _, rfl, rfl, World.ownsRow_nil _ _ _ _, Below.refl _ _⟩
  case round =>
    obtain ⟨k, a', c', hk, rfl, rfl, HL⟩ := hrel
    obtain ⟨hrow, hbel⟩ := HL.out
    have hq1 := (HR.out wr hbel).cells.2.1
    have hbs := hbel.size
    by_cases hlt : k < n
    · have hkI : (k : Int) < (n : Int) := by omega
      have hk0 : (0 : Int) ≤ (k : Int) := by omega
      obtain ⟨x, hx⟩ : ∃ x, L[k]? = some x := ⟨_, List.getElem?_eq_getElem (by rw [HN.out]; exact hlt)⟩
      obtain ⟨g, c9, e9, _, _, hx1, hx2⟩ := (HR.out wr hbel).at hx
      simp only [Value.slice.injEq] at e9
      obtain ⟨rfl, e9n, rfl⟩ := e9
      clear e9n
      have hg := HGL.out g rfl
      obtain ⟨xi, xk⟩ := x
      dsimp only at hx1 hx2
      have HP := Hid.mk' (prs_at L k ⟨xi, xk⟩ hx)
      dsimp only at HP
      have hS : wr.cell? ⟨t, 1, none⟩ = some (.slice (some ⟨g, 0, none⟩) n c) ∧ wr.cell? ⟨g, k * 2, none⟩ = some (nu xi) ∧ wr.cell? ⟨g, k * 2 + 1, none⟩ = some (nu xk) := ⟨hq1, hx1, hx2⟩
      have nT : Value.ownBlock (.slice a' (2 * k) c') ≠ some t := fun e => by have := (hrow.lt t e).1; omega
      have nG : Value.ownBlock (.slice a' (2 * k) c') ≠ some g := fun e => by have := (hrow.lt g e).1; omega
      have htw : t < wr.heap.size := by omega
      have hgw : g < wr.heap.size := by omega
      clear hx HL
      go_wp2_with fail
      go_region_held3 (fun w' => w'.cell? ⟨t, 1, none⟩ = some (.slice (some ⟨g, 0, none⟩) n c) ∧ w'.cell? ⟨g, k * 2, none⟩ = some (nu xi) ∧ w'.cell? ⟨g, k * 2 + 1, none⟩ = some (nu xk)) (first | go_keep | (go_split_ands; refine ⟨?_, ?_, ?_⟩ <;> first | (rw [hg4.cell_far _ (by simp; omega) (Ne.symm nT)]; assumption) | (rw [hg4.cell_far _ (by simp; omega) (Ne.symm nG)]; assumption))) ((refine step_append_lies _ (by rfl) _ _ 35 (by rfl) w.heap.size 3 i0 (.int .i64 0) 1 8 Tryd.underlying35 ji hz0 hz1 hz2 rfl (by decide) (.slice a' (2 * k) c') (2 * k) ((prs (L.take k)).map nu) (by rfl) ((hrow.alloc _).drew) ⟨wr.heap.size, 0, none⟩ 2 2 [nu xi, nu xk] (by rfl) (by rfl) (World.news_of_block (cs := #[nu xi, nu xk]) (t := 3) (fr := (0, 0)) (heap_alloc_new wr _)) (by simp [Value.oneCell']) (by decide) (by unfold maxLen; omega) (by omega) (by simp; omega) (wr.heap.size + 1) (by simp) ?_; intro g4 c4 w4 hs4 hg4 at4 lt4))
      have hb4 : Below w.heap.size w w4 := Below.grown (Below.drew (hbel.alloc hbel.size _)) hg4 (by simp; omega) (fun k hk => (hrow.lt k hk).1)
      have HB4 := Hid.mk' hb4
      have HO4 := Hid.mk' hs4
      clear hs4 hg4 at4 lt4 hb4 hrow hbel hS hq1 hx1 hx2
      go_wp2
      go_roundw
      case rel =>
        refine ⟨k + 1, some ⟨g4, 0, none⟩, c4, by omega, by go_num, rfl, ?_, HB4.out⟩
        rw [HP.out, List.map_append]
        exact HO4.out
      case measure => simp [intOf]; omega
    · have hkI : ¬ (k : Int) < (n : Int) := by omega
      obtain rfl : k = n := by omega
      have htk : L.take k = L := List.take_of_length_le (by rw [HN.out]; exact Nat.le_refl _)
      rw [htk] at hrow
      have HO := Hid.mk' hrow
      have HB := Hid.mk' hbel
      clear hrow hbel HL htk
      go_wp2
      go_ret
      exact ⟨_, _, rfl, HO.out, HB.out⟩
end Hh
end Go.Proofs.YteclbmmhidmklaaDoor
