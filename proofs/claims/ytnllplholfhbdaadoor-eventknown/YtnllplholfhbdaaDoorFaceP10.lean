/- The reader's faces: a panic that a deferred literal catches. -/
import Derived.Test.YtnllplholfhbdaaDoorTakeP10
namespace Go.Proofs.YtnllplholfhbdaaDoor
set_option linter.ambiguousOpen false
open Go.RowKit
namespace Pk
namespace Pp
open Sm Ft
set_option linter.unusedSimpArgs false
set_option linter.unusedVariables false

theorem two_newF (w : World) (A B : Obj) : ((w.alloc A).alloc B).heap[w.heap.size]? = some A ∧ ((w.alloc A).alloc B).heap[w.heap.size + 1]? = some B := by
  have s1 : (w.alloc A).heap.size = w.heap.size + 1 := by simp
  have a := heap_alloc_new w A
  have b := heap_alloc_new (w.alloc A) B
  rw [s1] at b
  exact ⟨by rw [Below.heap_alloc _ _ _ (by omega)]; exact a, b⟩

/-- The literal at the face, where the body has panicked. -/
theorem catch_num (a er : Nat) (s : Value) (no z : Int) (y : Value) (older : List PanicEntry) (w : World) (h : w.heap[a]? = some (.cells #[s, .int .i64 z] 145)) (he : w.heap[er]? = some (.cells #[y] 34)) :
    CallsD Tryd.prog 65 #[ptr a, ptr er] (.panicking ({ v := .iface 60 (.int .i64 no), recovered := false } :: older)) w fun e u' w' =>
      e = .returned (.tuple #[]) ∧ u' = .panicking ({ v := .iface 60 (.int .i64 no), recovered := true } :: older) ∧ w' = w.setCell ⟨er, 0, none⟩ (.iface 60 (.int .i64 z)) := by
  have q1 : w.cell? ⟨a, 1, none⟩ = some (.int .i64 z) := by simp [World.cell?, h]
  obtain ⟨e4, e5⟩ := one_cell he
  clear h he
  refine callsD_of_wpS Tryd.func65 rfl fun c₀ cs hu => ?_
  apply wpS_seq
  apply wpS_region
  simp only [Tryd.ntmps65, List.size_toArray, List.length_cons, List.length_nil, Nat.reduceAdd, Nat.reduceSub, Array.replicate_succ, Array.replicate_zero, List.push_toArray, List.append_toArray, List.nil_append, List.cons_append]
  simp [wpOpsS, go_sem, recoverD, hu, Exit.thenS]
  refine wpS_of_wp ?_
  go_wp2
  simp [bodyPostS, results, Tryd.results65]

theorem idle_num (a er : Nat) (w : World) :
    CallsD Tryd.prog 65 #[ptr a, ptr er] .returning w fun e u' w' => e = .returned (.tuple #[]) ∧ u' = .returning ∧ w' = w := by
  refine callsD_of_wpS Tryd.func65 rfl fun c₀ cs hu => ?_
  apply wpS_seq
  apply wpS_region
  simp only [Tryd.ntmps65, List.size_toArray, List.length_cons, List.length_nil, Nat.reduceAdd, Nat.reduceSub, Array.replicate_succ, Array.replicate_zero, List.push_toArray, List.append_toArray, List.nil_append, List.cons_append]
  simp [wpOpsS, go_sem, recoverD, hu, Exit.thenS]
  refine wpS_of_wp ?_
  go_wp2
  cases c₀
  simp_all [bodyPostS, results, Tryd.results65]

set_option maxRecDepth 100000 in
theorem num_face (w : World) (p : Nat) (l : List UInt8) (h : Rd w p l) :
    Calls Tryd.prog 63 #[ptr p] w fun e w' => e = .returned (.tuple #[u6 (num l).1, errE (num l).2.2]) ∧ Rd w' p (l.drop (num l).2.1) ∧ Keep (fun i => i = p) w w' := by
  have hmf : ∀ (fn : Fn) (first cap : Array Value) (w : World), (Instr.makeFunc fn first cap).run Tryd.prog w = .ok (.func fn first cap) w := fun _ _ _ _ => rfl
  obtain ⟨q0, qf⟩ := h.cells
  have HR := Hid.mk' h
  have hp := h.lt
  have hb1 : Below w.heap.size w (w.alloc (.cells #[.nilIface] 34)) := (Below.refl _ w).alloc (Nat.le_refl _) _
  have hb2 : Below w.heap.size w ((w.alloc (.cells #[.nilIface] 34)).alloc (.cells #[.string (tx l), .int .i64 0] 145)) := hb1.alloc (by simp) _
  obtain ⟨r0, rf⟩ := (h.below hb1).cells
  obtain ⟨n0, n1⟩ := two_newF w (.cells #[.nilIface] 34) (.cells #[.string (tx l), .int .i64 0] 145)
  have C := Hid.mk' (number_take _ (w.heap.size + 1) l 0 ⟨n1, h.sz⟩)
  have HB2 := Hid.mk' hb2
  have hblk := Hid.mk' (And.intro n0 ((h.below hb2).blk))
  have hsz := Hid.mk' h.sz
  clear h hb1 hb2 n0 n1
  obtain ⟨f, hf⟩ : ∃ f, tx l = f := ⟨_, rfl⟩
  rw [hf] at q0 r0 C HB2 hblk
  have HF := Hid.mk' hf
  clear hf
  go_enter_defers Tryd.func63, Tryd.ntmps63
  go_wp2_with fail
  refine C.out.mono ?_
  rintro e w5 ⟨hK5, hO5⟩
  obtain ⟨b0, b1⟩ := hblk.out
  have d0 := hK5.at b0 (by omega)
  have d1 := hK5.at b1 (by omega)
  have HK5 : Hid (Keep (fun i => i = p ∨ w.heap.size ≤ i) w w5) := ((Keep.of_below HB2.out).trans (hK5.weaken (G := fun i => i = p ∨ w.heap.size ≤ i) (fun _ _ e => .inr (by omega))) (fun _ _ h => h))
  clear b0 b1 hblk r0 rf C hK5 HB2 q0 qf
  rcases hO5 with ⟨hz, rfl, hT5⟩ | ⟨hz, rfl, r, hT5⟩
  · obtain ⟨t0, t1, _, _⟩ := hT5.cells
    obtain ⟨m, hm⟩ : ∃ m, l.drop (num l).2.1 = m := ⟨_, rfl⟩
    have hml : m.length ≤ l.length := by rw [← hm]; simp
    rw [hm] at t0 hT5
    have HM := Hid.mk' hm
    obtain ⟨z1, zf1⟩ := one_cell d1
    have hR5 : Rd w5 p l := ⟨by rw [HF.out]; exact d1, hsz.out⟩
    obtain ⟨hRs, hKs⟩ := hR5.set hml
    have d0' := hKs.at d0 (by omega)
    obtain ⟨z2, zf2⟩ := one_cell d0'
    have d0f : ((w5.setCell ⟨p, 0, none⟩ (.string (tx m))).setCell ⟨w.heap.size, 0, none⟩ .nilIface).heap[w.heap.size]? = some (.cells #[.nilIface] 34) := heap_setCell_same _ _ 0 _ _ _ d0'
    have hKf : Keep (fun i => i = w.heap.size) (w5.setCell ⟨p, 0, none⟩ (.string (tx m))) ((w5.setCell ⟨p, 0, none⟩ (.string (tx m))).setCell ⟨w.heap.size, 0, none⟩ .nilIface) := (Keep.refl (fun i => i = w.heap.size) _).setCell (p := ⟨w.heap.size, 0, none⟩) (.inl rfl) _
    obtain ⟨f2, _⟩ := one_cell d0f
    have HRf := Hid.mk' (hRs.keep hKf (by omega))
    have HKf : Hid (Keep (fun i => i = p) w ((w5.setCell ⟨p, 0, none⟩ (.string (tx m))).setCell ⟨w.heap.size, 0, none⟩ .nilIface)) := ((HK5.out.trans hKs (fun _ _ h => .inl h)).trans hKf (fun i hi e => .inr (by omega))).weaken (fun i hi e => by
      rcases e with e | e
      · exact e
      · omega)
    have HZ := Hid.mk' hz
    clear d0 d1 d0' d0f hKf hKs hRs hR5 hT5 hz hm hml t1
    obtain ⟨g, hg⟩ : ∃ g, tx m = g := ⟨_, rfl⟩
    rw [hg] at t0 z2 zf2 f2 HRf HKf
    go_wp2
    refine leaves_cons (f := 65) (args := #[ptr (w.heap.size + 1), ptr w.heap.size]) (by simp) (by simp [go_sem]) ?_
    refine (idle_num _ _ _).mono ?_
    rintro e u' w6 ⟨rfl, rfl, rfl⟩
    simp only [settle]
    refine ⟨.tuple #[.int .u64 ((num l).1 : Int), .nilIface], ?_, by rw [HZ.out]; rfl, by rw [HM.out]; exact HRf.out, HKf.out⟩
    clear HRf HKf
    generalize (w5.setCell ⟨p, 0, none⟩ (.string g)).setCell ⟨w.heap.size, 0, none⟩ .nilIface = wf at *
    simp [results, Tryd.results63, go_sem, f2]
  · obtain ⟨no, hno⟩ : ∃ no, (num l) = (0, 0, no + 1) := by
      obtain ⟨x, n, m, hn⟩ : ∃ x n m, num l = (x, n, m) := ⟨_, _, _, rfl⟩
      have h2 := numG_no 10 0 0 l
      rw [show numG 10 0 0 l = (x, n, m) from hn] at h2
      rw [hn] at hz
      rcases h2 with h2 | ⟨h2, h3, _⟩
      · exact absurd h2 hz
      · simp at h2 h3 hz
        subst h2 h3
        exact ⟨m - 1, by rw [hn, show m - 1 + 1 = m by omega]⟩
    rw [hno] at hT5 ⊢
    have HNO := Hid.mk' hno
    clear hno
    have hC := Hid.mk' (catch_num (w.heap.size + 1) w.heap.size _ ((no + 1 : Nat) : Int) ((no + 1 : Nat) : Int) .nilIface [] w5 hT5.blk d0)
    have hR5 : Rd w5 p l := ⟨by rw [HF.out]; exact d1, hsz.out⟩
    have hKf : Keep (fun i => i = w.heap.size) w5 (w5.setCell ⟨w.heap.size, 0, none⟩ (.iface 60 (.int .i64 ((no + 1 : Nat) : Int)))) := (Keep.refl (fun i => i = w.heap.size) _).setCell (p := ⟨w.heap.size, 0, none⟩) (.inl rfl) _
    have HRf := Hid.mk' (hR5.keep hKf (by omega))
    have HKf : Hid (Keep (fun i => i = p) w (w5.setCell ⟨w.heap.size, 0, none⟩ (.iface 60 (.int .i64 ((no + 1 : Nat) : Int))))) := (HK5.out.trans hKf (fun i hi e => .inr (by omega))).weaken (fun i hi e => by
      rcases e with e | e
      · exact e
      · omega)
    have d0f : (w5.setCell ⟨w.heap.size, 0, none⟩ (.iface 60 (.int .i64 ((no + 1 : Nat) : Int)))).heap[w.heap.size]? = some (.cells #[.iface 60 (.int .i64 ((no + 1 : Nat) : Int))] 34) := heap_setCell_same _ _ 0 _ _ _ d0
    obtain ⟨f2, _⟩ := one_cell d0f
    clear d0f
    clear d0 d1 hKf hR5 hT5 hz
    go_wp2
    refine leaves_cons (f := 65) (args := #[ptr (w.heap.size + 1), ptr w.heap.size]) (by simp) (by simp [go_sem]) ?_
    refine hC.out.mono ?_
    rintro e u' w6 ⟨rfl, rfl, rfl⟩
    simp only [settle]
    refine ⟨.tuple #[.int .u64 0, .iface 60 (.int .i64 ((no + 1 : Nat) : Int))], ?_, by rw [HNO.out]; rfl, by rw [HNO.out]; exact HRf.out, HKf.out⟩
    clear HRf HKf hC
    generalize ((no + 1 : Nat) : Int) = z at *
    generalize w5.setCell ⟨w.heap.size, 0, none⟩ (.iface 60 (.int .i64 z)) = wf at *
    simp [results, Tryd.results63, go_sem, f2]

theorem max_zero (most : Int) (wx : World) : (Builtin.max_ #[3, 3] 3 #[nu most, nu 0]).run Tryd.prog wx = .ok (nu (most.toNat : Int)) wx := by
  rw [run_max_int2, show (if (0 : Int) > most then (0 : Int) else most) = (most.toNat : Int) by split <;> omega]

/-- The literal at the face, where the body has panicked. -/
theorem catch_txtR (a er : Nat) (s : Value) (no z : Int) (y : Value) (older : List PanicEntry) (w : World) (h : w.heap[a]? = some (.cells #[s, .int .i64 z] 145)) (he : w.heap[er]? = some (.cells #[y] 34)) :
    CallsD Tryd.prog 67 #[ptr a, ptr er] (.panicking ({ v := .iface 60 (.int .i64 no), recovered := false } :: older)) w fun e u' w' =>
      e = .returned (.tuple #[]) ∧ u' = .panicking ({ v := .iface 60 (.int .i64 no), recovered := true } :: older) ∧ w' = w.setCell ⟨er, 0, none⟩ (.iface 60 (.int .i64 z)) := by
  have q1 : w.cell? ⟨a, 1, none⟩ = some (.int .i64 z) := by simp [World.cell?, h]
  obtain ⟨e4, e5⟩ := one_cell he
  clear h he
  refine callsD_of_wpS Tryd.func67 rfl fun c₀ cs hu => ?_
  apply wpS_seq
  apply wpS_region
  simp only [Tryd.ntmps67, List.size_toArray, List.length_cons, List.length_nil, Nat.reduceAdd, Nat.reduceSub, Array.replicate_succ, Array.replicate_zero, List.push_toArray, List.append_toArray, List.nil_append, List.cons_append]
  simp [wpOpsS, go_sem, recoverD, hu, Exit.thenS]
  refine wpS_of_wp ?_
  go_wp2
  simp [bodyPostS, results, Tryd.results67]

theorem idle_txtR (a er : Nat) (w : World) :
    CallsD Tryd.prog 67 #[ptr a, ptr er] .returning w fun e u' w' => e = .returned (.tuple #[]) ∧ u' = .returning ∧ w' = w := by
  refine callsD_of_wpS Tryd.func67 rfl fun c₀ cs hu => ?_
  apply wpS_seq
  apply wpS_region
  simp only [Tryd.ntmps67, List.size_toArray, List.length_cons, List.length_nil, Nat.reduceAdd, Nat.reduceSub, Array.replicate_succ, Array.replicate_zero, List.push_toArray, List.append_toArray, List.nil_append, List.cons_append]
  simp [wpOpsS, go_sem, recoverD, hu, Exit.thenS]
  refine wpS_of_wp ?_
  go_wp2
  cases c₀
  simp_all [bodyPostS, results, Tryd.results67]

set_option maxRecDepth 100000 in
theorem txtR_face (w : World) (p : Nat) (l : List UInt8) (m0 : Int) (m1 : Nat) (hm1 : m0.toNat = m1) (h : Rd w p l) (hm0 : -9223372036854775808 ≤ m0 ∧ m0 ≤ 9223372036854775807) :
    Calls Tryd.prog 64 #[ptr p, nu m0] w fun e w' => e = .returned (.tuple #[.string (tx (taken l m1).1), errE (taken l m1).2.2]) ∧ Rd w' p (l.drop (taken l m1).2.1) ∧ Keep (fun i => i = p) w w' := by
  have hmf : ∀ (fn : Fn) (first cap : Array Value) (w : World), (Instr.makeFunc fn first cap).run Tryd.prog w = .ok (.func fn first cap) w := fun _ _ _ _ => rfl
  obtain ⟨q0, qf⟩ := h.cells
  have HR := Hid.mk' h
  have hp := h.lt
  have hb1 : Below w.heap.size w (w.alloc (.cells #[.nilIface] 34)) := (Below.refl _ w).alloc (Nat.le_refl _) _
  have hb2 : Below w.heap.size w ((w.alloc (.cells #[.nilIface] 34)).alloc (.cells #[.string (tx l), .int .i64 0] 145)) := hb1.alloc (by simp) _
  obtain ⟨r0, rf⟩ := (h.below hb1).cells
  obtain ⟨n0, n1⟩ := two_newF w (.cells #[.nilIface] 34) (.cells #[.string (tx l), .int .i64 0] 145)
  have C := Hid.mk' (text_take _ (w.heap.size + 1) l 0 m1 ⟨n1, h.sz⟩ (by omega))
  have HB2 := Hid.mk' hb2
  have hblk := Hid.mk' (And.intro n0 ((h.below hb2).blk))
  have hsz := Hid.mk' h.sz
  clear h hb1 hb2 n0 n1
  obtain ⟨f, hf⟩ : ∃ f, tx l = f := ⟨_, rfl⟩
  rw [hf] at q0 r0 C HB2 hblk
  have HF := Hid.mk' hf
  clear hf
  have hmx : ∀ wx, (Builtin.max_ #[3, 3] 3 #[nu m0, nu 0]).run Tryd.prog wx = .ok (nu (m1 : Int)) wx := fun wx => by
    rw [← hm1]
    exact max_zero m0 wx
  have hm64 : m1 < 9223372036854775808 := by omega
  clear hm1 hm0
  go_enter_defers Tryd.func64, Tryd.ntmps64
  go_wp2_with fail
  refine C.out.mono ?_
  rintro e w5 ⟨hK5, hO5⟩
  obtain ⟨b0, b1⟩ := hblk.out
  have d0 := hK5.at b0 (by omega)
  have d1 := hK5.at b1 (by omega)
  have HK5 : Hid (Keep (fun i => i = p ∨ w.heap.size ≤ i) w w5) := ((Keep.of_below HB2.out).trans (hK5.weaken (G := fun i => i = p ∨ w.heap.size ≤ i) (fun _ _ e => .inr (by omega))) (fun _ _ h => h))
  clear b0 b1 hblk r0 rf C hK5 HB2 q0 qf
  rcases hO5 with ⟨hz, rfl, hT5⟩ | ⟨hz, rfl, r, hT5⟩
  · obtain ⟨t0, t1, _, _⟩ := hT5.cells
    obtain ⟨m, hm⟩ : ∃ m, l.drop (taken l m1).2.1 = m := ⟨_, rfl⟩
    have hml : m.length ≤ l.length := by rw [← hm]; simp
    rw [hm] at t0 hT5
    have HM := Hid.mk' hm
    obtain ⟨z1, zf1⟩ := one_cell d1
    have hR5 : Rd w5 p l := ⟨by rw [HF.out]; exact d1, hsz.out⟩
    obtain ⟨hRs, hKs⟩ := hR5.set hml
    have d0' := hKs.at d0 (by omega)
    obtain ⟨z2, zf2⟩ := one_cell d0'
    have d0f : ((w5.setCell ⟨p, 0, none⟩ (.string (tx m))).setCell ⟨w.heap.size, 0, none⟩ .nilIface).heap[w.heap.size]? = some (.cells #[.nilIface] 34) := heap_setCell_same _ _ 0 _ _ _ d0'
    have hKf : Keep (fun i => i = w.heap.size) (w5.setCell ⟨p, 0, none⟩ (.string (tx m))) ((w5.setCell ⟨p, 0, none⟩ (.string (tx m))).setCell ⟨w.heap.size, 0, none⟩ .nilIface) := (Keep.refl (fun i => i = w.heap.size) _).setCell (p := ⟨w.heap.size, 0, none⟩) (.inl rfl) _
    obtain ⟨f2, _⟩ := one_cell d0f
    have HRf := Hid.mk' (hRs.keep hKf (by omega))
    have HKf : Hid (Keep (fun i => i = p) w ((w5.setCell ⟨p, 0, none⟩ (.string (tx m))).setCell ⟨w.heap.size, 0, none⟩ .nilIface)) := ((HK5.out.trans hKs (fun _ _ h => .inl h)).trans hKf (fun i hi e => .inr (by omega))).weaken (fun i hi e => by
      rcases e with e | e
      · exact e
      · omega)
    have HZ := Hid.mk' hz
    clear d0 d1 d0' d0f hKf hKs hRs hR5 hT5 hz hm hml t1
    obtain ⟨g, hg⟩ : ∃ g, tx m = g := ⟨_, rfl⟩
    rw [hg] at t0 z2 zf2 f2 HRf HKf
    go_wp2
    refine leaves_cons (f := 67) (args := #[ptr (w.heap.size + 1), ptr w.heap.size]) (by simp) (by simp [go_sem]) ?_
    refine (idle_txtR _ _ _).mono ?_
    rintro e u' w6 ⟨rfl, rfl, rfl⟩
    simp only [settle]
    refine ⟨.tuple #[.string (tx (taken l m1).1), .nilIface], ?_, by rw [HZ.out]; rfl, by rw [HM.out]; exact HRf.out, HKf.out⟩
    clear HRf HKf
    generalize (w5.setCell ⟨p, 0, none⟩ (.string g)).setCell ⟨w.heap.size, 0, none⟩ .nilIface = wf at *
    simp [results, Tryd.results64, go_sem, f2]
  · obtain ⟨no, hno⟩ : ∃ no, (taken l m1) = ([], 0, no + 1) := by
      have hz' := hz
      unfold taken at hz ⊢
      by_cases h1 : (num l).2.2 ≠ 0
      · rw [if_pos h1]
        exact ⟨(num l).2.2 - 1, by rw [show (num l).2.2 - 1 + 1 = (num l).2.2 by omega]⟩
      · rw [if_neg h1] at hz ⊢
        by_cases h2 : m1 < (num l).1
        · rw [if_pos h2]
          exact ⟨2, rfl⟩
        · rw [if_neg h2] at hz ⊢
          by_cases h3 : l.length - (num l).2.1 < (num l).1
          · rw [if_pos h3]
            exact ⟨1, rfl⟩
          · rw [if_neg h3] at hz
            exact absurd rfl hz
    rw [hno] at hT5 ⊢
    have HNO := Hid.mk' hno
    clear hno
    have hC := Hid.mk' (catch_txtR (w.heap.size + 1) w.heap.size _ ((no + 1 : Nat) : Int) ((no + 1 : Nat) : Int) .nilIface [] w5 hT5.blk d0)
    have hR5 : Rd w5 p l := ⟨by rw [HF.out]; exact d1, hsz.out⟩
    have hKf : Keep (fun i => i = w.heap.size) w5 (w5.setCell ⟨w.heap.size, 0, none⟩ (.iface 60 (.int .i64 ((no + 1 : Nat) : Int)))) := (Keep.refl (fun i => i = w.heap.size) _).setCell (p := ⟨w.heap.size, 0, none⟩) (.inl rfl) _
    have HRf := Hid.mk' (hR5.keep hKf (by omega))
    have HKf : Hid (Keep (fun i => i = p) w (w5.setCell ⟨w.heap.size, 0, none⟩ (.iface 60 (.int .i64 ((no + 1 : Nat) : Int))))) := (HK5.out.trans hKf (fun i hi e => .inr (by omega))).weaken (fun i hi e => by
      rcases e with e | e
      · exact e
      · omega)
    have d0f : (w5.setCell ⟨w.heap.size, 0, none⟩ (.iface 60 (.int .i64 ((no + 1 : Nat) : Int)))).heap[w.heap.size]? = some (.cells #[.iface 60 (.int .i64 ((no + 1 : Nat) : Int))] 34) := heap_setCell_same _ _ 0 _ _ _ d0
    obtain ⟨f2, _⟩ := one_cell d0f
    clear d0f
    clear d0 d1 hKf hR5 hT5 hz
    go_wp2
    refine leaves_cons (f := 67) (args := #[ptr (w.heap.size + 1), ptr w.heap.size]) (by simp) (by simp [go_sem]) ?_
    refine hC.out.mono ?_
    rintro e u' w6 ⟨rfl, rfl, rfl⟩
    simp only [settle]
    refine ⟨.tuple #[.string ⟨#[]⟩, .iface 60 (.int .i64 ((no + 1 : Nat) : Int))], ?_, by rw [HNO.out]; rfl, by rw [HNO.out]; exact HRf.out, HKf.out⟩
    clear HRf HKf hC
    generalize ((no + 1 : Nat) : Int) = z at *
    generalize w5.setCell ⟨w.heap.size, 0, none⟩ (.iface 60 (.int .i64 z)) = wf at *
    simp [results, Tryd.results64, go_sem, f2]
end Pp
end Pk
end Go.Proofs.YtnllplholfhbdaaDoor
