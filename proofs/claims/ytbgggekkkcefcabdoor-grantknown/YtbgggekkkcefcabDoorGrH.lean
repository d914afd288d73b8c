/- Layer 22: slices.Concat of two rows of refusals. -/
import Derived.Test.YtbgggekkkcefcabDoorGrG
import Derived.Deep.LoopGhost
namespace Go.Proofs.YtbgggekkkcefcabDoor
set_option linter.ambiguousOpen false
open Go.RowKit
namespace Gr
set_option linter.unusedVariables false
set_option linter.unusedSimpArgs false

theorem rd_belowR {w w' : World} {v : Value} {l : List Rf} (h : RdR w v l) (hb : Below w.heap.size w w') : RdR w' v l := by
  obtain ⟨a, cap, e, h1, h2, h3⟩ := h
  refine ⟨a, cap, e, h1, h2, fun hp => ?_⟩
  obtain ⟨g, o, ha, hc⟩ := h3 hp
  refine ⟨g, o, ha, fun i hi c v hv => ?_⟩
  have h := hc i hi c v hv
  have hlt : g < w.heap.size := by
    rcases Nat.lt_or_ge g w.heap.size with k | k
    · exact k
    · simp [World.cell?, Array.getElem?_eq_none k] at h
  exact (hb.cell (p := ⟨g, o + i * 2 + c, none⟩) hlt).trans h

theorem cell_ltR {w : World} {g k : Nat} {v : Value} (h : w.cell? ⟨g, k, none⟩ = some v) : g < w.heap.size := by
  rcases Nat.lt_or_ge g w.heap.size with k | k
  · exact k
  · simp [World.cell?, Array.getElem?_eq_none k] at h

theorem own_below {w w1 w2 : World} {base n : Nat} {v : Value} {xs : List Value} (hB : Below base w w1) (hb : base ≤ w1.heap.size) (ho : w1.ownsRow base 52 2 v n xs) (hg : w1.grownBy w2 v.ownBlock) : Below base w w2 := by
  refine hB.grown hg hb fun k e => ?_
  rcases ho.2 with ⟨rfl, _⟩ | ⟨g, cap, cur, rfl, h1, _⟩
  · cases e
  · have : g = k := by simpa [Value.ownBlock] using e
    omega

set_option maxRecDepth 100000 in
set_option maxHeartbeats 4000000 in
theorem concat_p (w : World) (g : Nat) (v1 v2 : Value) (L1 L2 : List Rf) (h1 : RdR w v1 L1) (h2 : RdR w v2 L2) (n1 : 0 < L1.length) (n2 : 0 < L2.length) (hs : L1.length + L2.length ≤ 1000)
    (c0 : w.cell? ⟨g, 0, none⟩ = some v1) (c1 : w.cell? ⟨g, 1, none⟩ = some v2) :
    Calls Tryd.prog 36 #[.slice (some ⟨g, 0, none⟩) 2 2] w fun e w' => ∃ v, e = .returned v ∧ RdR w' v (L1 ++ L2) ∧ Below w.heap.size w w' := by
  have H1 := hidG h1
  have H2 := hidG h2
  obtain ⟨a1, k1, rfl, hk1, hm1, hc1⟩ := h1
  obtain ⟨a2, k2, rfl, hk2, hm2, hc2⟩ := h2
  obtain ⟨g1, o1, rfl, -⟩ := hc1 n1
  obtain ⟨g2, o2, rfl, -⟩ := hc2 n2
  have i1 : (k1 : Int) ≤ 9223372036854775807 := by unfold maxLen at hm1; omega
  have i2 : (k2 : Int) ≤ 9223372036854775807 := by unfold maxLen at hm2; omega
  obtain ⟨m1, hm1⟩ : ∃ m, L1.length = m := ⟨_, rfl⟩
  obtain ⟨m2, hm2⟩ : ∃ m, L2.length = m := ⟨_, rfl⟩
  rw [hm1] at H1 n1 hs c0 hk1
  rw [hm2] at H2 n2 hs c1 hk2
  have HM1 := hidG hm1
  have HM2 := hidG hm2
  clear hc1 hc2 hm1 hm2
  have C0 := hidG c0
  have C1 := hidG c1
  have hz0 : (0 : Int) < 2 := by omega
  have t1 : wrap64 (0 + (m1 : Int)) = (m1 : Int) := by unfold wrap64; omega
  have t2 : wrap64 ((m1 : Int) + (m2 : Int)) = (m1 : Int) + (m2 : Int) := by unfold wrap64; omega
  have t3 : ¬ ((m1 : Int) < 0) := by omega
  have t4 : ¬ ((m1 : Int) + (m2 : Int) < 0) := by omega
  go_enter Tryd.func36, Tryd.ntmps36
  go_wp2
  go_loopw [3, 11] (fun s i wr => wr = w ∧ ((i = .int .i64 0 ∧ s = .int .i64 0) ∨ (i = .int .i64 1 ∧ s = .int .i64 (m1 : Int)) ∨ (i = .int .i64 2 ∧ s = .int .i64 ((m1 : Int) + (m2 : Int))))) (fun _ i _ => 2 - (intOf i).toNat)
  case atStart => exact ⟨rfl, .inl ⟨rfl, rfl⟩⟩
  case round =>
    obtain ⟨hw, hi⟩ := hrel
    subst wr
    rcases hi with ⟨rfl, rfl⟩ | ⟨rfl, rfl⟩ | ⟨rfl, rfl⟩
    · go_wp2
      go_roundw
      case rel => exact ⟨by trivial, .inr (.inl ⟨rfl, rfl⟩)⟩
      case measure => simp [intOf]
    · go_wp2
      go_roundw
      case rel => exact ⟨by trivial, .inr (.inr ⟨rfl, rfl⟩)⟩
      case measure => simp [intOf]
    · have hcast : (m1 : Int) + (m2 : Int) = ((m1 + m2 : Nat) : Int) := by omega
      rw [hcast]
      have cG := grow_p (m1 + m2) (by omega) hs w
      clear t1 t2 t3 t4 hcast
      go_wp2_with fail
      go_at_call 51
      refine cG.mono ?_
      rintro e w1 ⟨v0, rfl, ho, hb⟩
      have HB := hidG hb
      have HO := hidG ho
      clear cG ho hb
      have C0' := (HB.out.cell (p := ⟨g, 0, none⟩) (cell_ltR C0.out)).trans C0.out
      clear c0 c1
      go_wp2
      go_loopw [6, 27] (fun nv i wr => Below w.heap.size w wr ∧ ((i = .int .i64 0 ∧ wr.ownsRow w.heap.size 52 2 nv 0 []) ∨ (i = .int .i64 1 ∧ wr.ownsRow w.heap.size 52 2 nv m1 (L1.flatMap Rf.cells)) ∨ (i = .int .i64 2 ∧ wr.ownsRow w.heap.size 52 2 nv (m1 + m2) ((L1 ++ L2).flatMap Rf.cells)))) (fun _ i _ => 2 - (intOf i).toNat)
      case atStart => exact ⟨HB.out, .inl ⟨rfl, HO.out⟩⟩
      case round =>
        obtain ⟨hB, hi⟩ := hrel
        have HBr := hidG hB
        have d0 := (hB.cell (p := ⟨g, 0, none⟩) (cell_ltR C0.out)).trans C0.out
        have d1 := (hB.cell (p := ⟨g, 1, none⟩) (cell_ltR C1.out)).trans C1.out
        have R1 := hidG (rd_belowR H1.out hB)
        have R2 := hidG (rd_belowR H2.out hB)
        clear hB
        have hbs : w.heap.size ≤ wr.heap.size := HBr.out.size
        rcases hi with ⟨rfl, ho⟩ | ⟨rfl, ho⟩ | ⟨rfl, ho⟩
        · have HO2 := hidG ho
          have HBS := hidG hbs
          clear ho hbs
          go_wp2_with (at_builtin; refine wpList_append_rf _ rfl _ _ rfl w.heap.size u6 0 [] rfl HO2.out (.slice (some ⟨g1, o1, none⟩) m1 k1) L1 rfl R1.out (fun _ _ h => by cases h) (by rw [HM1.out]; omega) HBS.out ?_; intro v' w' h1 h2; have P1 := hidG h1; have P2 := hidG h2; clear h1 h2)
          go_roundw
          case rel => exact ⟨own_below HBr.out HBS.out HO2.out P2.out, .inr (.inl ⟨rfl, by have := P1.out; rwa [HM1.out, Nat.zero_add, List.nil_append] at this⟩)⟩
          case measure => simp [intOf]
        · have HO2 := hidG ho
          have HBS := hidG hbs
          clear ho hbs
          go_wp2_with (at_builtin; refine wpList_append_rf _ rfl _ _ rfl w.heap.size u6 m1 L1 rfl HO2.out (.slice (some ⟨g2, o2, none⟩) m2 k2) L2 rfl R2.out (fun _ _ h => by cases h) (by rw [HM2.out]; omega) HBS.out ?_; intro v' w' h1 h2; have P1 := hidG h1; have P2 := hidG h2; clear h1 h2)
          go_roundw
          case rel => exact ⟨own_below HBr.out HBS.out HO2.out P2.out, .inr (.inr ⟨rfl, by have := P1.out; rwa [HM2.out] at this⟩)⟩
          case measure => simp [intOf]
        · have HO2 := hidG ho
          clear ho hbs
          go_wp2
          go_ret
          refine ⟨_, rfl, own_rdR HO2.out ?_, HBr.out⟩
          rw [List.length_append, HM1.out, HM2.out]
end Gr
end Go.Proofs.YtbgggekkkcefcabDoor
