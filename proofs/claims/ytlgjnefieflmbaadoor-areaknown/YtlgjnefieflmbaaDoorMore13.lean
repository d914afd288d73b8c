/- New, Trail and After of the program's disk; all that 'Says' asks. -/
import Derived.Test.YtlgjnefieflmbaaDoorCalls9
namespace Go.Proofs.YtlgjnefieflmbaaDoor
set_option linter.ambiguousOpen false
open Go.RowKit
namespace Dk
namespace Pd
open Sm Ft
set_option linter.unusedSimpArgs false
set_option linter.unusedVariables false

theorem info_txt : (Tryd.prog.info? 9).map (fun i => (i.zero, i.size, i.bytes)) = some (some (.string ⟨#[]⟩), 1, 16) := by kernel_rfl

theorem Sd.new {W : World} {H k : Nat} {M : Array Value} (h1 : 1 ≤ k) (h2 : k ≤ 4096) (hM : M.toList = List.replicate k (.string ⟨#[]⟩)) (hg : W.heap[H]? = some (.cells M 9)) (hp : W.heap[H + 1]? = some (.cells #[.slice (some ⟨H, 0, none⟩) k k, .slice none 0 0, .func (.func 72) #[] #[]] 69)) :
    Sd W (H + 1) H k (.slice none 0 0) (.func (.func 72) #[] #[]) none ⟨(k : Int), -1, []⟩ := by
  have hs : M.size = k := by rw [← Array.length_toList, hM, List.length_replicate]
  refine ⟨hp, ⟨by rw [tl_len, Nat.mul_one], .inr ⟨H, k, M, rfl, Nat.zero_le _, hg, Nat.le_refl _, by unfold maxLen; omega, by omega, ?_⟩⟩, World.ownsRow_nil _ _ _ _, by show 1 ≤ (k : Int) ∧ (k : Int) ≤ 4096; omega, fun r hr => by simp at hr, ⟨rfl, rfl⟩, by omega, by simp [Value.ownBlock], by simp, by simp [Value.ownBlock], by simp, by simp [Value.ownBlock]⟩
  rw [hM, tl_new]
  show List.take (k * 1) (List.replicate k _) = List.replicate k _
  rw [Nat.mul_one, List.take_of_length_le (by simp)]

theorem two_a (w : World) (A B : Obj) : ((w.alloc A).alloc B).drew.heap[w.heap.size]? = some A := (Below.heap_alloc (w.alloc A) B w.heap.size (by simp)).trans (heap_alloc_new w A)

theorem two_b (w : World) (A B : Obj) : ((w.alloc A).alloc B).drew.heap[w.heap.size + 1]? = some B := by
  have h := heap_alloc_new (w.alloc A) B
  rw [show (w.alloc A).heap.size = w.heap.size + 1 by simp] at h
  exact h

theorem two_c (w : World) (A B : Obj) : Below w.heap.size w ((w.alloc A).alloc B).drew := (((Below.refl _ w).alloc (Nat.le_refl _) A).alloc (by simp) B).drew

theorem empty_any (k : Nat) (w : World) (h1 : 1 ≤ k) (h2 : k ≤ 4096) :
    Calls Tryd.prog 29 #[nu (k : Int)] w fun e w' => e = .returned (ptr (w.heap.size + 1)) ∧ Sd w' (w.heap.size + 1) w.heap.size k (.slice none 0 0) (.func (.func 72) #[] #[]) none ⟨(k : Int), -1, []⟩ ∧ Below w.heap.size w w' := by
  obtain ⟨i0, ji, hz0, hz1, hz2⟩ := info_parts info_txt
  obtain ⟨M, hML, hmk⟩ : ∃ M : Array Value, Hid (M.toList = List.replicate k (.string ⟨#[]⟩)) ∧ ∀ W : World, (Instr.makeSlice 65 (.int .i64 (k : Int)) (.int .i64 (k : Int))).run Tryd.prog W = .ok (.slice (some ⟨W.heap.size, 0, none⟩) k k) (W.alloc (.cells M 9)) := by
    refine ⟨madeCells (Value.string ⟨#[]⟩).cells (k * 1), ?_, fun W => ?_⟩
    · show _ = _
      rw [Nat.mul_one]
      exact toList_madeCells_one _ _
    · have h := run_make (P := Tryd.prog) W 65 9 i0 _ Tryd.underlying65 ji hz0 .i64 .i64 (k : Int) (k : Int) (by omega) (by omega) (by rw [hz2]; omega) (by omega)
      rw [hz1, Int.toNat_natCast] at h
      exact h
  have c1 : Hid (∀ wx, Calls Tryd.prog 48 #[] wx fun e w' => e = .returned (.func (.func 72) #[] #[]) ∧ w' = wx) := powered_any
  clear ji hz0 hz1 hz2
  go_enter Tryd.func29, Tryd.ntmps29
  go_wp2_with fail
  go_region_with (go_at_call 48; refine (c1.out _).mono ?_; rintro e w' ⟨rfl, rfl⟩)
  all_goals go_wp2
  all_goals go_ret
  all_goals exact ⟨rfl, Sd.new h1 h2 hML.out (two_a _ _ _) (two_b _ _ _), two_c _ _ _⟩

theorem new_no (n : Int) (w : World) (h : ¬ (1 ≤ n ∧ n ≤ 4096)) :
    Calls Tryd.prog 7 #[nu n] w fun e w' => e = .returned (.tuple #[.pointer none, noE 1]) ∧ Below w.heap.size w w' := by
  by_cases h1 : n < 1
  · clear h
    go_enter Tryd.func7, Tryd.ntmps7
    go_wp2
    go_ret2
    exact ⟨rfl, Below.refl _ _⟩
  · have h2 : 4096 < n := by omega
    clear h
    go_enter Tryd.func7, Tryd.ntmps7
    go_wp2
    go_ret2
    exact ⟨rfl, Below.refl _ _⟩

theorem new_yes (n : Int) (w : World) (h1 : 1 ≤ n) (h2 : n ≤ 4096) :
    Calls Tryd.prog 7 #[nu n] w fun e w' => ∃ p F, e = .returned (.tuple #[ptr p, .nilIface]) ∧ Rep w' p F ⟨n, -1, []⟩ ∧ (∀ k, F k → w.heap.size ≤ k) ∧ Below w.heap.size w w' := by
  obtain ⟨k, hk⟩ : ∃ k : Nat, n = (k : Int) := ⟨n.toNat, by omega⟩
  subst hk
  have c1 := Hid.mk' (empty_any k w (by omega) (by omega))
  go_enter Tryd.func7, Tryd.ntmps7
  go_wp2_with fail
  refine c1.out.mono ?_
  rintro e w1 ⟨rfl, hq, hb⟩
  have HQ := Hid.mk' hq
  have HB := Hid.mk' hb
  clear hq hb c1
  go_wp2
  go_ret2
  refine ⟨_, _, rfl, ⟨_, _, _, _, _, HQ.out, rfl⟩, ?_, HB.out⟩
  intro j hj
  rcases hj with rfl | rfl | hj | hj
  · omega
  · exact Nat.le_refl _
  · simp [Value.ownBlock] at hj
  · cases hj

theorem cut_raw (a : Option Addr) (len cap k : Nat) (h : k ≤ cap) (w : World) : (Instr.slice 43 (.slice a len cap) none (some (.int .i64 (k : Int))) none).run Tryd.prog w = .ok (.slice a k cap) w := by
  have h1 : (0 : Int) ≤ (k : Int) ∧ (k : Int) ≤ (cap : Int) := by omega
  have hu := Tryd.underlying43
  cases a with
  | none =>
    simp [Instr.slice, Instr.sliceBounds, Instr.sliceBound, asIntOf, run_underlying hu]
    intro hh; omega
  | some ad =>
    simp [Instr.slice, Instr.sliceBounds, Instr.sliceBound, asIntOf, run_underlying hu, Addr.add]
    intro hh; omega

/-- A raw write of the trail. -/
theorem Sd.raw {w : World} {p bg bc : Nat} {tv fv : Value} {pw : Option Nat} {d : Dsk} (h : Sd w p bg bc tv fv pw d) (k : Nat) (r : Raw) (hr : d.tr[k]? = some r) : ∃ g cap, tv = .slice (some ⟨g, 0, none⟩) d.tr.length cap ∧ w.cell? ⟨g, k * 2, none⟩ = some (nu r.1) ∧ w.cell? ⟨g, k * 2 + 1, none⟩ = some (.string (tx r.2)) := by
  have hk : k < d.tr.length := (List.getElem?_eq_some_iff.1 hr).1
  obtain ⟨g, cap, e, _, _⟩ := h.tr.form (by omega)
  have h2 := h.tr
  rw [e] at h2
  obtain ⟨a, b⟩ := raw_cells h2 k r hr rfl
  exact ⟨g, cap, e, a, b⟩

theorem rcs_set (l : List Raw) (k : Nat) (r : Raw) : rcs (l.set k r) = ((rcs l).set (k * 2) (nu r.1)).set (k * 2 + 1) (.string (tx r.2)) := by
  induction l generalizing k with
  | nil => simp [rcs]
  | cons a l ih =>
    cases k with
    | zero =>
      show rcs (r :: l) = _
      unfold rcs
      rw [List.flatMap_cons, List.flatMap_cons]
      rfl
    | succ k =>
      show rcs (a :: l.set k r) = _
      have := ih k
      unfold rcs at *
      rw [List.flatMap_cons, List.flatMap_cons, this, show (k + 1) * 2 = k * 2 + 2 by omega]
      rfl

/-- A store of a raw write into an owned row. -/
theorem own_setR {w : World} {base g cap n : Nat} {e : TypeId} {l : List Raw} (h : w.ownsRow base e 2 (.slice (some ⟨g, 0, none⟩) n cap) n (rcs l)) (k : Nat) (r : Raw) :
    ((w.setCell ⟨g, k * 2, none⟩ (nu r.1)).setCell ⟨g, k * 2 + 1, none⟩ (.string (tx r.2))).ownsRow base e 2 (.slice (some ⟨g, 0, none⟩) n cap) n (rcs (l.set k r)) := by
  rcases h.2 with ⟨hv, _⟩ | ⟨g', cap', cur, hv, hbg, hg, hnc, hcm, hcs, htake⟩
  · simp at hv
  · simp only [Value.slice.injEq, Option.some.injEq, Addr.mk.injEq, and_true, true_and] at hv
    obtain ⟨rfl, rfl⟩ := hv
    refine ⟨by rw [rcs_set]; simpa using h.1, .inr ⟨g, cap, (cur.setIfInBounds (k * 2) (nu r.1)).setIfInBounds (k * 2 + 1) (.string (tx r.2)), rfl, hbg, ?_, hnc, hcm, by simpa using hcs, ?_⟩⟩
    · exact heap_setCell_same _ g (k * 2 + 1) _ _ _ (heap_setCell_same _ g (k * 2) _ _ _ hg)
    · rw [rcs_set, ← htake]
      simp [List.take_set]

theorem rcs_zero (m : Nat) : (madeCells (Value.agg #[.int .i64 0, .string ⟨#[]⟩]).cells (m * 2)).toList = rcs (List.replicate m ((0 : Int), ([] : List UInt8))) := by
  apply List.ext_getElem?
  intro j
  by_cases hj : j < m * 2
  · have hz : (List.replicate m ((0 : Int), ([] : List UInt8)))[j / 2]? = some (0, []) := by
      rw [List.getElem?_replicate, if_pos (by omega)]
    obtain ⟨h0, h1⟩ := rcs_at _ _ _ hz
    have hc : (Value.agg #[.int .i64 0, .string ⟨#[]⟩]).cells = #[.int .i64 0, .string ⟨#[]⟩] := rfl
    rw [hc]
    rcases Nat.mod_two_eq_zero_or_one j with hm | hm
    · rw [show j / 2 * 2 = j by omega] at h0
      rw [h0]
      simp [madeCells, hj, hm]
    · rw [show j / 2 * 2 + 1 = j by omega] at h1
      rw [h1]
      simp [madeCells, hj, hm]
  · rw [List.getElem?_eq_none (by rw [Array.length_toList, size_madeCells]; omega), List.getElem?_eq_none (by rw [rcs_len, List.length_replicate]; omega)]

theorem make_raw (m : Nat) (hm : m ≤ 1000000000) (W : World) : ∃ o, (Instr.makeSlice 43 (.int .i64 (m : Int)) (.int .i64 (m : Int))).run Tryd.prog W = .ok (.slice (some ⟨W.heap.size, 0, none⟩) m m) (W.alloc o) ∧ (W.alloc o).ownsRow W.heap.size 71 2 (.slice (some ⟨W.heap.size, 0, none⟩) m m) m (rcs (List.replicate m (0, []))) := by
  obtain ⟨i0, ji, hz0, hz1, hz2⟩ := info_parts info_raw
  have h := run_make (P := Tryd.prog) W 43 71 i0 _ Tryd.underlying43 ji hz0 .i64 .i64 (m : Int) (m : Int) (by omega) (by omega) (by rw [hz2]; omega) (by omega)
  rw [hz1, Int.toNat_natCast] at h
  refine ⟨_, h, by rw [rcs_len, List.length_replicate], .inr ⟨_, m, _, rfl, Nat.le_refl _, heap_alloc_new _ _, Nat.le_refl _, by unfold maxLen; omega, size_madeCells _ _, ?_⟩⟩
  rw [rcs_zero, List.take_of_length_le (by rw [rcs_len, List.length_replicate]; omega)]

theorem undrew {W w2 : World} (h : Below W.drew.heap.size W.drew w2) : Below W.heap.size W w2 := ⟨h.os, h.tape, h.output, h.size, h.block⟩

theorem far2 {w2 : World} {g h i j x : Nat} {u v c : Value} (hne : h ≠ g) (hc : w2.cell? ⟨h, x, none⟩ = some c) : ((w2.setCell ⟨g, i, none⟩ u).setCell ⟨g, j, none⟩ v).cell? ⟨h, x, none⟩ = some c := by
  rw [← hc]
  exact World.cell?_of_block (a := ⟨h, x, none⟩) ((Below.heap_setCell _ _ _ _ hne).trans (Below.heap_setCell _ _ _ _ hne))

theorem own_freeR {w : World} {base g cap n : Nat} {e : TypeId} {xs : List Value} (h : w.ownsRow base e 2 (.slice (some ⟨g, 0, none⟩) n cap) n xs) (i : Nat) : w.frozen? ⟨g, i, none⟩ = false := by
  rcases h.2 with ⟨hv, _⟩ | ⟨g', cap', cur, hv, hbg, hg, hnc, hcm, hcs, htake⟩
  · simp at hv
  · simp only [Value.slice.injEq, Option.some.injEq, Addr.mk.injEq, and_true, true_and] at hv
    obtain ⟨rfl, rfl⟩ := hv
    simp [World.frozen?, hg]

theorem put_take (l : List Raw) (k : Nat) (r : Raw) (hr : l[k]? = some r) : (l.take k ++ List.replicate (l.length - k) ((0 : Int), ([] : List UInt8))).set k r = l.take (k + 1) ++ List.replicate (l.length - (k + 1)) (0, []) := by
  have hk : k < l.length := (List.getElem?_eq_some_iff.1 hr).1
  rw [List.set_append_right _ _ (by rw [List.length_take]; omega), List.length_take, show k - min k l.length = 0 by omega, show l.length - k = (l.length - (k + 1)) + 1 by omega, List.replicate_succ, List.set_cons_zero, List.take_add_one, hr]
  simp

set_option maxRecDepth 100000 in
set_option maxHeartbeats 2000000 in
theorem trail_any (w : World) (p bg bc : Nat) (tv fv : Value) (pw : Option Nat) (d : Dsk) (h : Sd w p bg bc tv fv pw d) (hl : d.tr.length ≤ 1000000000) :
    Calls Tryd.prog 19 #[ptr p] w fun e w' => ∃ v, e = .returned v ∧ w'.ownsRow w.heap.size 71 2 v d.tr.length (rcs d.tr) ∧ Below w.heap.size w w' := by
  obtain ⟨a, cap, etv, hcap, hcm⟩ := h.trv
  obtain ⟨o, hmk, hrow⟩ := make_raw d.tr.length hl w
  have HS := Hid.mk' h
  obtain ⟨q0, q1, q2⟩ := h.cells
  rw [etv] at q1
  have hbw : Below w.heap.size w (w.alloc o) := (Below.refl _ w).alloc (Nat.le_refl _) o
  have h1 := h.below hbw
  obtain ⟨q0', q1', q2'⟩ := h1.cells
  rw [etv] at q1'
  have HB1 := Hid.mk' hbw
  have HR1 : Hid ((w.alloc o).ownsRow w.heap.size 71 2 (.slice (some ⟨w.heap.size, 0, none⟩) d.tr.length d.tr.length) d.tr.length (rcs (d.tr.take 0 ++ List.replicate (d.tr.length - 0) ((0 : Int), ([] : List UInt8))))) := hrow
  have HE := Hid.mk' etv
  have c1 : Hid (∀ (x : List UInt8) (wx : World), x.length ≤ 256 → Calls Tryd.prog 42 #[.string (tx x)] wx fun e w' => e = .returned (.string (tx x)) ∧ Below wx.heap.size wx w') := fun x wx hx => clone_s _ _ (Nat.le_trans hx (by decide))
  clear h h1 hbw hrow etv
  generalize w.alloc o = w1 at *
  unfold maxLen at hcm
  go_enter Tryd.func19, Tryd.ntmps19
  go_wp2
  clear hmk
  go_loopw [17] (fun iv wr => ∃ k : Nat, k ≤ d.tr.length ∧ iv = nu (k : Int) ∧ Hid (wr.ownsRow w.heap.size 71 2 (.slice (some ⟨w.heap.size, 0, none⟩) d.tr.length d.tr.length) d.tr.length (rcs (d.tr.take k ++ List.replicate (d.tr.length - k) ((0 : Int), ([] : List UInt8))))) ∧ Hid (Below w.heap.size w wr)) (fun iv _ => d.tr.length - (intOf iv).toNat)
  case atStart => exact ⟨0, Nat.zero_le _, rfl, HR1, HB1⟩
  case round =>
    obtain ⟨k, hk, rfl, hRw, hBw⟩ := hrel
    by_cases hp : (k : Int) < (d.tr.length : Int)
    · obtain ⟨r, hr⟩ : ∃ r, d.tr[k]? = some r := ⟨_, List.getElem?_eq_getElem (by omega)⟩
      have hSp := HS.out.below hBw.out
      obtain ⟨g, cap', e1, r0, r1⟩ := hSp.raw k r hr
      rw [HE.out] at e1
      simp only [Value.slice.injEq, true_and] at e1
      obtain ⟨rfl, rfl⟩ := e1
      have hok := (hSp.ok r (List.mem_of_getElem? hr)).2
      have HP := Hid.mk' (put_take d.tr k r hr)
      obtain ⟨rb, rt⟩ := r
      have cC : Hid (∀ wx, Calls Tryd.prog 42 #[.string (tx rt)] wx fun e w' => e = .returned (.string (tx rt)) ∧ Below wx.heap.size wx w') := fun wx => c1.out rt wx hok
      have hk0 : (0 : Int) ≤ (k : Int) := by omega
      have hfin : Hid (∀ W : World, Below wr.heap.size wr W → W.ownsRow w.heap.size 71 2 (.slice (some ⟨w.heap.size, 0, none⟩) d.tr.length d.tr.length) d.tr.length (rcs (d.tr.take k ++ List.replicate (d.tr.length - k) ((0 : Int), ([] : List UInt8))))) := fun W hW => (Keep.of_below (F := fun _ => False) hW).own hRw.out (fun _ _ h => h)
      have hcell : Hid (∀ W : World, Below wr.heap.size wr W → (∃ u0, W.cell? ⟨w.heap.size, k * 2, none⟩ = some u0) ∧ (∃ u1, W.cell? ⟨w.heap.size, k * 2 + 1, none⟩ = some u1) ∧ W.frozen? ⟨w.heap.size, k * 2, none⟩ = false ∧ W.frozen? ⟨w.heap.size, k * 2 + 1, none⟩ = false) := fun W hW => by
        have ho := hfin.out W hW
        have hlen : k * 2 + 1 < (rcs (d.tr.take k ++ List.replicate (d.tr.length - k) ((0 : Int), ([] : List UInt8)))).length := by
          rw [rcs_len, List.length_append, List.length_take, List.length_replicate]; omega
        exact ⟨⟨_, (ho.cellAt (k * 2) (by omega)).trans (List.getElem?_eq_getElem (by omega))⟩, ⟨_, (ho.cellAt (k * 2 + 1) (by omega)).trans (List.getElem?_eq_getElem hlen)⟩, own_freeR ho _, own_freeR ho _⟩
      have hst : Hid (∀ w2 : World, Below (wr.alloc (.cells #[nu rb, .string (tx rt)] 71)).heap.size (wr.alloc (.cells #[nu rb, .string (tx rt)] 71)) w2 → Hid (Below wr.heap.size wr w2) ∧ (w2.cell? ⟨wr.heap.size, 0, none⟩ = some (nu rb) ∧ w2.cell? ⟨wr.heap.size, 1, none⟩ = some (.string (tx rt))) ∧ (∃ u0, w2.cell? ⟨w.heap.size, k * 2, none⟩ = some u0) ∧ (∃ u1, w2.cell? ⟨w.heap.size, k * 2 + 1, none⟩ = some u1) ∧ w2.frozen? ⟨w.heap.size, k * 2, none⟩ = false ∧ w2.frozen? ⟨w.heap.size, k * 2 + 1, none⟩ = false) := fun w2 hb => by
        have hB : Below wr.heap.size wr w2 := ((Below.refl _ wr).alloc (Nat.le_refl _) _).trans (hb.mono (by simp))
        have hg : w2.heap[wr.heap.size]? = some (.cells #[nu rb, .string (tx rt)] 71) := (hb.block wr.heap.size (by simp)).trans (heap_alloc_new _ _)
        exact ⟨hB, ⟨by simp [World.cell?, hg], by simp [World.cell?, hg]⟩, hcell.out w2 hB⟩
      have hend : Hid (∀ w2 : World, Below wr.heap.size wr w2 → ((w2.setCell ⟨w.heap.size, k * 2, none⟩ (nu rb)).setCell ⟨w.heap.size, k * 2 + 1, none⟩ (.string (tx rt))).ownsRow w.heap.size 71 2 (.slice (some ⟨w.heap.size, 0, none⟩) d.tr.length d.tr.length) d.tr.length (rcs (d.tr.take (k + 1) ++ List.replicate (d.tr.length - (k + 1)) ((0 : Int), ([] : List UInt8)))) ∧ Below w.heap.size w ((w2.setCell ⟨w.heap.size, k * 2, none⟩ (nu rb)).setCell ⟨w.heap.size, k * 2 + 1, none⟩ (.string (tx rt)))) := fun w2 hb => by
        refine ⟨?_, ?_⟩
        · have h5 := own_setR (hfin.out w2 hb) k (rb, rt)
          rw [HP.out] at h5
          exact h5
        · exact (((hBw.out.trans (hb.mono hBw.out.size)).setCell (p := ⟨w.heap.size, k * 2, none⟩) (Nat.le_refl _) _).setCell (p := ⟨w.heap.size, k * 2 + 1, none⟩) (Nat.le_refl _) _)
      have hne : wr.heap.size ≠ w.heap.size := fun e => by have := (hRw.out.lt w.heap.size rfl).2; omega
      clear hSp hr hok q0' q1' q2' c1 q0 q1 q2 hcell hfin HP hRw
      generalize tx rt = f at *
      go_wp2_with fail
      go_region_held3 (fun w' => w'.cell? ⟨wr.heap.size, 0, none⟩ = some (nu rb) ∧ w'.cell? ⟨wr.heap.size, 1, none⟩ = some (.string f)) (first | assumption | exact ⟨far2 hne hS2.1, far2 hne hS2.2⟩ | go_keep) (first | (go_at_call 42; refine (cC.out _).mono ?_; rintro e w2 ⟨rfl, hb2⟩; have hX := hst.out w2 (by first | exact hb2 | exact undrew hb2 | fail); obtain ⟨HB2, hS2, ⟨u0, z0⟩, ⟨u1, z1⟩, zf0, zf1⟩ := hX; clear hb2) | fail)
      go_wp2
      go_roundw
      case rel => exact ⟨k + 1, by omega, by go_num, (hend.out w2 HB2.out).1, (hend.out w2 HB2.out).2⟩
      case measure => simp [intOf]; omega
    · obtain rfl : k = d.tr.length := by omega
      go_wp2
      go_ret
      refine ⟨_, rfl, ?_, hBw.out⟩
      have h5 := hRw.out
      rw [Nat.sub_self, List.take_length, List.replicate_zero, List.append_nil] at h5
      exact h5

theorem goes_of {w : World} {p bg : Nat} {tv tv' : Value} {pw : Option Nat} (h : MovesT w tv tv') : Goes w (fp p bg tv pw) (fp p bg tv' pw) := by
  intro k hk
  rcases hk with hk | hk | hk | hk
  · exact .inl (.inl hk)
  · exact .inl (.inr (.inl hk))
  · rcases h k hk with h | h
    · exact .inl (.inr (.inr (.inl h)))
    · exact .inr h
  · exact .inl (.inr (.inr (.inr hk)))

theorem below_self {w w' : World} (h : w' = w) : Below w.heap.size w w' := by subst h; exact Below.refl _ _

/-- The program's disk answers as it must. -/
theorem says : Says Rep where
  keep := fun ⟨bg, bc, tv, fv, pw, h, e⟩ hk hn => ⟨bg, bc, tv, fv, pw, h.keep hk (by rw [← e]; exact hn), e⟩
  lt := fun ⟨bg, bc, tv, fv, pw, h, e⟩ k hk => h.lt k (by rw [← e]; exact hk)
  newNo := new_no
  newYes := new_yes
  blocks := fun w p F d ⟨bg, bc, tv, fv, pw, h, e⟩ => (blocks_any w p bg bc tv fv pw d h).mono fun _ _ ⟨a, b⟩ => ⟨a, below_self b⟩
  trail := fun w p F d ⟨bg, bc, tv, fv, pw, h, e⟩ hl => trail_any w p bg bc tv fv pw d h hl
  read := fun w p F d i ⟨bg, bc, tv, fv, pw, h, e⟩ _ _ => read_any w p bg bc tv fv pw d i h
  write := fun w p F d i s ⟨bg, bc, tv, fv, pw, h, e⟩ hl _ hs => (write_any w p bg bc tv fv pw d i s h hl hs).mono fun _ w' ⟨a, tv', b1, b2, b3⟩ => ⟨a, _, ⟨_, _, _, _, _, b1, rfl⟩, by rw [e]; exact b2, by rw [e]; exact goes_of b3⟩
  cut := fun w p F d n ⟨bg, bc, tv, fv, pw, h, e⟩ hn => (cut_any w p bg bc tv fv pw d n h hn).mono fun _ w' ⟨a, fv', pw', b1, b2, b3⟩ => ⟨a, _, ⟨_, _, _, _, _, b1, rfl⟩, by rw [e]; exact b2, by rw [e]; exact b3⟩
  restore := fun w p F d ⟨bg, bc, tv, fv, pw, h, e⟩ => (restore_any w p bg bc tv fv pw d h).mono fun _ w' ⟨a, fv', pw', b1, b2, b3⟩ => ⟨a, _, ⟨_, _, _, _, _, b1, rfl⟩, by rw [e]; exact b2, by rw [e]; exact b3⟩
end Pd
end Dk
end Go.Proofs.YtlgjnefieflmbaaDoor
