/- Layer 22: the program's below and Login. -/
import Derived.Test.YtbgggekkkcefcabDoorGrJ
namespace Go.Proofs.YtbgggekkkcefcabDoor
set_option linter.ambiguousOpen false
open Go.RowKit
namespace Gr
set_option linter.unusedVariables false
set_option linter.unusedSimpArgs false

/-- What each of them tells. -/
def pB (b : Bi) (x : Rf) : Bool :=
  if x.f = 18 then !nmB b.r.user
  else if x.f = 22 then !nmB b.r.label
  else if x.f = 19 then !lvlB b.r.level
  else if x.f = 20 then !Ck.untilB b.now b.r.life b.latest
  else if x.f = 23 then decide (300 < b.r.life)
  else if x.f = 24 then decide (b.p.depth < 0 ∨ 6 ≤ b.p.depth)
  else if x.f = 43 then !inB b.r.scopes b.p.scopes
  else if x.f = 25 then !Lv.upB b.p.level b.r.level
  else if x.f = 34 then decide (b.births < 0 ∨ 1048576 ≤ b.births)
  else if x.f = 35 then b.full
  else false

def Bi.fit (b : Bi) : Prop := b.p.fit ∧ b.r.fit

def tenF : List Nat := [18, 22, 19, 20, 23, 24, 43, 25, 34, 35]

theorem ten_goes {f : Nat} (h : f ∈ tenF) : Goes f := by
  simp only [tenF, List.mem_cons, List.not_mem_nil, or_false] at h
  rcases h with rfl | rfl | rfl | rfl | rfl | rfl | rfl | rfl | rfl | rfl
  · exact goes_of Tryd.func18 (by kernel_rfl) (by kernel_rfl)
  · exact goes_of Tryd.func22 (by kernel_rfl) (by kernel_rfl)
  · exact goes_of Tryd.func19 (by kernel_rfl) (by kernel_rfl)
  · exact goes_of Tryd.func20 (by kernel_rfl) (by kernel_rfl)
  · exact goes_of Tryd.func23 (by kernel_rfl) (by kernel_rfl)
  · exact goes_of Tryd.func24 (by kernel_rfl) (by kernel_rfl)
  · exact goes_of Tryd.func43 (by kernel_rfl) (by kernel_rfl)
  · exact goes_of Tryd.func25 (by kernel_rfl) (by kernel_rfl)
  · exact goes_of Tryd.func34 (by kernel_rfl) (by kernel_rfl)
  · exact goes_of Tryd.func35 (by kernel_rfl) (by kernel_rfl)

theorem ten_tell {b : Bi} {x : Rf} (hb : b.fit) (h : x.f ∈ tenF) (w : World) (hS : x.f = 25 → Lv.StepsG w) :
    Calls Tryd.prog x.f #[b.v] w fun e w' => e = .returned (.bool (pB b x)) ∧ Below w.heap.size w w' := by
  obtain ⟨⟨p1, p2, p3, -⟩, r1, r2, r3, -⟩ := hb
  obtain ⟨no, f⟩ := x
  simp only [tenF, List.mem_cons, List.not_mem_nil, or_false] at h
  rcases h with rfl | rfl | rfl | rfl | rfl | rfl | rfl | rfl | rfl | rfl
  · exact noUser_p b w r1
  · exact noLabel_p b w r2
  · exact noLevel_p b w
  · exact noTime_p b w
  · exact tooLong_p b w
  · exact tooDeep_p b w
  · exact tooWide_p b w r3 p3
  · exact noStep_p b w (hS rfl)
  · exact noBirth_p b w
  · exact noRoom_p b w

/-- A row just laid. -/
theorem row_new (L : List Rf) (hL : L.length ≤ 1000) (w : World) : RdR (w.alloc (.cells (L.flatMap Rf.cells).toArray 52)) (.slice (some ⟨w.heap.size, 0, none⟩) L.length L.length) L := by
  refine ⟨_, L.length, rfl, Nat.le_refl _, by unfold maxLen; omega, fun _ => ⟨w.heap.size, 0, rfl, fun i hi c v hv => ?_⟩⟩
  have hc : c < 2 := (List.getElem?_eq_some_iff.1 hv).1
  rw [cell_of_row _ w.heap.size (0 + i * 2 + c) _ _ _ (heap_alloc_new w _)]
  have := flat_atR L i c hi hc
  rw [Nat.zero_add]
  simpa [this] using hv

theorem refuses (b : Bi) (hb : b.fit) (L : List Rf) (h0 : 0 < L.length) (h1 : L.length ≤ 900) (hL : ∀ x ∈ L, x.f ∈ tenF) (w : World) (v : Value) (hR : RdR w v L) (hS : ∀ x ∈ L, x.f = 25 → Lv.StepsG w) :
    Calls Tryd.prog 17 #[b.v, v] w fun e w' => e = .returned (firstV (pB b) (L ++ bothR)) ∧ Below w.heap.size w w' := by
  have ht : ∀ x ∈ L ++ bothR, x.f ∈ tenF := fun x hx => by
    rcases List.mem_append.1 hx with h | h
    · exact hL x h
    · simp only [bothR, List.mem_cons, List.not_mem_nil, or_false] at h
      rcases h with rfl | rfl <;> simp [tenF]
  refine refused_p b (pB b) L h0 h1 w v hR (fun x hx => ten_goes (ht x hx)) fun x hx w1 hb1 => ten_tell hb (ht x hx) w1 fun hs => ?_
  rcases List.mem_append.1 hx with h | h
  · exact (hS x h hs).below hb1
  · simp only [bothR, List.mem_cons, List.not_mem_nil, or_false] at h
    rcases h with rfl | rfl <;> cases hs

set_option maxRecDepth 100000 in
set_option maxHeartbeats 8000000 in
theorem below_p (b : Bi) (w : World) (hb : b.fit) (hU : Ck.untilB b.now b.r.life b.latest = true) (hb1 : 0 ≤ b.births) (hb2 : b.births < 1048576) (hd1 : 0 ≤ b.p.depth) (hd2 : b.p.depth < 6) :
    Calls Tryd.prog 26 #[b.v] w fun e w' => e = .returned ((⟨0, b.births + 1, b.p.slot, b.p.birth, 0, b.p.user, b.r.label, 0, 0, b.now, Ck.untilI b.now b.r.life b.latest, b.p.depth + 1⟩ : Sn).v) ∧ Below w.heap.size w w' := by
  have cB := fun w1 => born_p b ⟨0, 0, b.p.slot, b.p.birth, 0, b.p.user, b.r.label, 0, 0, 0, 0, b.p.depth + 1⟩ w1 hb.1.1 hb.2.2.1 hU hb1 hb2
  obtain ⟨D, hD⟩ : ∃ D, Ck.untilI b.now b.r.life b.latest = D := ⟨_, rfl⟩
  rw [hD] at cB ⊢
  have HCB := hidG cB
  obtain ⟨wA, hA⟩ : ∃ wA, (w.alloc (.cells b.arr 47)).alloc (.cells #[.int .i64 0, .int .i64 0, .int .i64 0, .int .i64 0, .int .i64 0, .string ⟨#[]⟩, .string ⟨#[]⟩, .int .u64 0, .int .i64 0, .int .i64 0, .int .i64 0, .int .i64 0] 28) = wA := ⟨_, rfl⟩
  have q0 : wA.heap[w.heap.size]? = some (.cells b.arr 47) := by
    rw [← hA, heap_alloc_old _ _ (by simp)]
    exact heap_alloc_new _ _
  have q1 : wA.heap[w.heap.size + 1]? = some (.cells zeroS.arr 28) := by rw [← hA]; exact two_at _ _ _
  have HB : Hid (Below w.heap.size w wA) := hidG (by rw [← hA]; exact two_below _ _ _)
  have k0 : wA.cell? ⟨w.heap.size, 0, none⟩ = some (.int .i64 b.p.slot) := by rw [cell_of_row wA _ 0 _ _ _ q0]; rfl
  have k1 : wA.cell? ⟨w.heap.size, 1, none⟩ = some (.int .i64 b.p.birth) := by rw [cell_of_row wA _ 1 _ _ _ q0]; rfl
  have k5 : wA.cell? ⟨w.heap.size, 5, none⟩ = some (.string b.p.user) := by rw [cell_of_row wA _ 5 _ _ _ q0]; rfl
  have k11 : wA.cell? ⟨w.heap.size, 11, none⟩ = some (.int .i64 b.p.depth) := by rw [cell_of_row wA _ 11 _ _ _ q0]; rfl
  have k13 : wA.cell? ⟨w.heap.size, 13, none⟩ = some (.string b.r.label) := by rw [cell_of_row wA _ 13 _ _ _ q0]; rfl
  have t1 : wrap64 (b.p.depth + 1) = b.p.depth + 1 := by unfold wrap64; omega
  have HA := hidG hA
  have Q0 := hidG q0
  have Q1 := hidG q1
  clear hA q0 q1 cB hD hU hb hb1 hb2
  show Calls Tryd.prog 26 #[.agg b.arr] w _
  go_enter Tryd.func26, Tryd.ntmps26
  go_wp2_with (first | (rw [HA.out]; refine wpList_load_bi rfl _ rfl w.heap.size rfl b Q0.out ?_) | fail)
  refine (HCB.out _).mono ?_
  rintro e w1 ⟨rfl, hb1⟩
  have e1 := (hb1.block _ (Array.getElem?_eq_some_iff.1 Q1.out).1).trans Q1.out
  have HB1 := hidG (HB.out.trans (hb1.mono HB.out.size))
  have E1 := hidG e1
  clear hb1 e1 k0 k1 k5 k11 k13
  go_wp2_with (first | (refine wpList_store_sn rfl _ _ rfl (w.heap.size + 1) rfl ⟨0, b.births + 1, b.p.slot, b.p.birth, 0, b.p.user, b.r.label, 0, 0, b.now, D, b.p.depth + 1⟩ zeroS rfl E1.out ?_; intro w6 hh hg; have HH := hidG hh; have HG := hidG hg; clear hh hg) | fail)
  exact bodyPost_ret (results_cell_row rfl _ _ (w.heap.size + 1) _ _ _ _ rfl HH.out Tryd.underlying28 rfl size_sn) rfl ⟨rfl, HB1.out.grown HG.out HB1.out.size (fun k e => by cases e; omega)⟩
end Gr
end Go.Proofs.YtbgggekkkcefcabDoor
