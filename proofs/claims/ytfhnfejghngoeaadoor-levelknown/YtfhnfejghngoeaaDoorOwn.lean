/- A copy of a session. -/
import Derived.Test.YtfhnfejghngoeaaDoorSes
namespace Go.Proofs.YtfhnfejghngoeaaDoor
set_option linter.ambiguousOpen false
open Go.RowKit
namespace Lv
set_option linter.unusedSimpArgs false
set_option linter.unusedVariables false

/-- The zero session. -/
def zs : Ses := ⟨0, 0, 0, 0, 0, ⟨#[]⟩, ⟨#[]⟩, 0, 0, 0, 0, 0⟩

/-- What stands while a session is copied. -/
def OwnS (b : Nat) (w : World) (s : Ses) (w' : World) : Prop :=
  w'.cell? ⟨b, 5, none⟩ = some (.string s.user) ∧ w'.cell? ⟨b, 6, none⟩ = some (.string s.label) ∧ w'.frozen? ⟨b, 5, none⟩ = false ∧ w'.frozen? ⟨b, 6, none⟩ = false ∧ w'.heap[b]? = some (.cells s.arr 46 (0, 0)) ∧ w'.heap[b + 1]? = some (.cells zs.arr 46 (0, 0)) ∧ Below b w w'

theorem setCell_self {w : World} {b o : Nat} {cs : Array Value} {t : TypeId} {fr : Nat × Nat} {v : Value} (h : w.heap[b]? = some (.cells cs t fr)) (hv : cs[o]? = some v) : w.setCell ⟨b, o, none⟩ v = w := by
  obtain ⟨hb, e⟩ := Array.getElem?_eq_some_iff.1 h
  obtain ⟨ho, eo⟩ := Array.getElem?_eq_some_iff.1 hv
  have e1 : (w.setCell ⟨b, o, none⟩ v).heap = w.heap := by
    unfold World.setCell
    apply Array.ext
    · simp
    · intro i h1 h2
      simp only [Array.getElem_modify]
      split
      · rename_i q
        subst q
        rw [e]
        simp only [Option.isSome_none, Bool.false_eq_true, if_false, Obj.cells.injEq, and_true]
        apply Array.ext
        · simp
        · intro j k1 k2
          rw [Array.getElem_setIfInBounds]
          split
          · rename_i q2; subst q2; exact eo.symm
          · rfl
      · rfl
  show ({ w with heap := (w.setCell ⟨b, o, none⟩ v).heap } : World) = w
  rw [e1]

theorem OwnS.user {b : Nat} {w w' : World} {s : Ses} (h : OwnS b w s w') : OwnS b w s (w'.setCell ⟨b, 5, none⟩ (.string s.user)) := by
  rw [setCell_self h.2.2.2.2.1 rfl]; exact h

theorem OwnS.label {b : Nat} {w w' : World} {s : Ses} (h : OwnS b w s w') : OwnS b w s (w'.setCell ⟨b, 6, none⟩ (.string s.label)) := by
  rw [setCell_self h.2.2.2.2.1 rfl]; exact h

theorem OwnS.drew {b : Nat} {w w' : World} {s : Ses} (h : OwnS b w s w') : OwnS b w s w'.drew := ⟨h.1, h.2.1, h.2.2.1, h.2.2.2.1, h.2.2.2.2.1, h.2.2.2.2.2.1, h.2.2.2.2.2.2.drew⟩

theorem OwnS.below {b : Nat} {w w' w2 : World} {s : Ses} (h : OwnS b w s w') (hb : Below w'.heap.size w' w2) : OwnS b w s w2 := by
  have l0 := (Array.getElem?_eq_some_iff.1 h.2.2.2.2.1).1
  have l1 := (Array.getElem?_eq_some_iff.1 h.2.2.2.2.2.1).1
  exact ⟨(hb.cell (p := ⟨b, 5, none⟩) l0).trans h.1, (hb.cell (p := ⟨b, 6, none⟩) l0).trans h.2.1, (World.frozen?_of_block (a := ⟨b, 5, none⟩) (hb.block b l0)).trans h.2.2.1, (World.frozen?_of_block (a := ⟨b, 6, none⟩) (hb.block b l0)).trans h.2.2.2.1, (hb.block b l0).trans h.2.2.2.2.1, (hb.block (b + 1) l1).trans h.2.2.2.2.2.1, h.2.2.2.2.2.2.trans (hb.mono (by omega))⟩

/-- A session is put into a variable. -/
def putS (w : World) (b : Nat) (s : Ses) : World := ((((((((((((w.setCell ⟨b, 0, none⟩ (.int .i64 s.slot)).setCell ⟨b, 1, none⟩ (.int .i64 s.birth)).setCell ⟨b, 2, none⟩ (.int .i64 s.us)).setCell ⟨b, 3, none⟩ (.int .i64 s.ub)).setCell ⟨b, 4, none⟩ (.int .i64 s.kind)).setCell ⟨b, 5, none⟩ (.string s.user)).setCell ⟨b, 6, none⟩ (.string s.label)).setCell ⟨b, 7, none⟩ (.int .u64 s.scopes)).setCell ⟨b, 8, none⟩ (.int .i64 s.level)).setCell ⟨b, 9, none⟩ (.int .i64 s.born)).setCell ⟨b, 10, none⟩ (.int .i64 s.deadline)).setCell ⟨b, 11, none⟩ (.int .i64 s.depth))

theorem putS_heap {w : World} {b : Nat} {z : Ses} (s : Ses) (h : w.heap[b]? = some (.cells z.arr 46 (0, 0))) : (putS w b s).heap[b]? = some (.cells s.arr 46 (0, 0)) := by
  have h0 := heap_setCell_same _ b 0 _ _ (.int .i64 s.slot) h
  have h1 := heap_setCell_same _ b 1 _ _ (.int .i64 s.birth) h0
  have h2 := heap_setCell_same _ b 2 _ _ (.int .i64 s.us) h1
  have h3 := heap_setCell_same _ b 3 _ _ (.int .i64 s.ub) h2
  have h4 := heap_setCell_same _ b 4 _ _ (.int .i64 s.kind) h3
  have h5 := heap_setCell_same _ b 5 _ _ (.string s.user) h4
  have h6 := heap_setCell_same _ b 6 _ _ (.string s.label) h5
  have h7 := heap_setCell_same _ b 7 _ _ (.int .u64 s.scopes) h6
  have h8 := heap_setCell_same _ b 8 _ _ (.int .i64 s.level) h7
  have h9 := heap_setCell_same _ b 9 _ _ (.int .i64 s.born) h8
  have h10 := heap_setCell_same _ b 10 _ _ (.int .i64 s.deadline) h9
  have h11 := heap_setCell_same _ b 11 _ _ (.int .i64 s.depth) h10
  unfold putS
  refine h11.trans (congrArg (fun c => some (Obj.cells c 46 (0, 0))) ?_)
  simp only [Ses.arr, List.setIfInBounds_toArray, List.set]

theorem putS_other {w : World} {b k : Nat} (s : Ses) (hk : k ≠ b) : (putS w b s).heap[k]? = w.heap[k]? := by
  unfold putS
  simp only [heap_setCell_other _ _ _ _ (show k ≠ (⟨b, _, none⟩ : Addr).block from hk)]

theorem putS_below {w0 w : World} {base b : Nat} (s : Ses) (h : Below base w0 w) (hb : base ≤ b) : Below base w0 (putS w b s) := by
  unfold putS
  iterate 12 (refine Below.setCell ?_ hb _)
  exact h

theorem sesType : ∃ fs, Tryd.prog.underlying 46 = some (.struct fs) := ⟨_, Tryd.underlying46⟩

theorem sesSize (s : Ses) : (Tryd.prog.info? 46).map (·.size) = some s.arr.size := by
  show _ = some 12
  kernel_rfl

theorem at_block {w : World} {b : Nat} {s : Ses} {fr : Nat × Nat} (h : w.heap[b]? = some (.cells s.arr 46 fr)) : At w b 0 s := fun j v hv => by
  rw [Nat.zero_add, cell_of_row w b j _ _ _ h]
  simpa [Ses.arr_cells] using hv

set_option maxRecDepth 100000 in
set_option maxHeartbeats 2000000 in
theorem own_any (s : Ses) (w : World) (hf : s.fits) :
    Calls Tryd.prog 27 #[.agg s.arr] w fun e w' => e = .returned (.agg s.arr) ∧ Below w.heap.size w w' := by
  obtain ⟨hf1, hf2⟩ := hf
  have c1 : Hid (∀ (x : ByteArray) (w1 : World), x.size ≤ 281474976710656 → Calls Tryd.prog 22 #[.string x] w1 fun e w' => e = .returned (.string x) ∧ Below w1.heap.size w1 w') := fun x w1 h => clone_t x w1 h
  have hS0 : OwnS w.heap.size w s ((w.alloc (.cells s.arr 46)).alloc (.cells zs.arr 46)) := by
    have e0 : ((w.alloc (.cells s.arr 46)).alloc (.cells zs.arr 46)).heap[w.heap.size]? = some (.cells s.arr 46 (0, 0)) := (heap_alloc_old _ _ (by simp)).trans (heap_alloc_new _ _)
    have e1 : ((w.alloc (.cells s.arr 46)).alloc (.cells zs.arr 46)).heap[w.heap.size + 1]? = some (.cells zs.arr 46 (0, 0)) := by have := heap_alloc_new (w.alloc (.cells s.arr 46)) (.cells zs.arr 46); simpa using this
    exact ⟨by rw [cell_of_row _ _ _ _ _ _ e0]; rfl, by rw [cell_of_row _ _ _ _ _ _ e0]; rfl, by simp [World.frozen?, e0], by simp [World.frozen?, e0], e0, e1, ((Below.refl _ _).alloc (Nat.le_refl _) _).alloc (by simp) _⟩
  obtain ⟨f0, f1, f2, f3, f4, f5, f6, f7, f8, f9, f10, f11⟩ := s
  simp only [Ses.arr, zs] at *
  go_enter Tryd.func27, Tryd.ntmps27
  go_wp2_with fail
  generalize (w.alloc (.cells #[.int .i64 f0, .int .i64 f1, .int .i64 f2, .int .i64 f3, .int .i64 f4, .string f5, .string f6, .int .u64 f7, .int .i64 f8, .int .i64 f9, .int .i64 f10, .int .i64 f11] 46)).alloc (.cells #[.int .i64 0, .int .i64 0, .int .i64 0, .int .i64 0, .int .i64 0, .string ⟨#[]⟩, .string ⟨#[]⟩, .int .u64 0, .int .i64 0, .int .i64 0, .int .i64 0, .int .i64 0] 46) = wA at *
  unfold OwnS at hS0
  simp only [Ses.arr, zs] at hS0
  go_region_held3 (fun w' => w'.cell? ⟨w.heap.size, 5, none⟩ = some (.string f5) ∧ w'.cell? ⟨w.heap.size, 6, none⟩ = some (.string f6) ∧ w'.frozen? ⟨w.heap.size, 5, none⟩ = false ∧ w'.frozen? ⟨w.heap.size, 6, none⟩ = false ∧ w'.heap[w.heap.size]? = some (.cells #[.int .i64 f0, .int .i64 f1, .int .i64 f2, .int .i64 f3, .int .i64 f4, .string f5, .string f6, .int .u64 f7, .int .i64 f8, .int .i64 f9, .int .i64 f10, .int .i64 f11] 46 (0, 0)) ∧ w'.heap[w.heap.size + 1]? = some (.cells #[.int .i64 0, .int .i64 0, .int .i64 0, .int .i64 0, .int .i64 0, .string ⟨#[]⟩, .string ⟨#[]⟩, .int .u64 0, .int .i64 0, .int .i64 0, .int .i64 0, .int .i64 0] 46 (0, 0)) ∧ Below w.heap.size w w') (first | assumption | exact OwnS.drew (s := ⟨f0, f1, f2, f3, f4, f5, f6, f7, f8, f9, f10, f11⟩) (by assumption) | exact OwnS.user (s := ⟨f0, f1, f2, f3, f4, f5, f6, f7, f8, f9, f10, f11⟩) (by assumption) | exact OwnS.label (s := ⟨f0, f1, f2, f3, f4, f5, f6, f7, f8, f9, f10, f11⟩) (by assumption)) (first | (go_at_call 22; refine (c1.out _ _ (by first | exact hf1 | exact hf2)).mono ?_; rintro e w2 ⟨rfl, hq⟩; have hS2 := OwnS.below (b := w.heap.size) (w := w) (s := ⟨f0, f1, f2, f3, f4, f5, f6, f7, f8, f9, f10, f11⟩) (by assumption) hq; unfold OwnS at hS2; simp only [Ses.arr, zs] at hS2; clear hq))
  rw [setCell_self (w := w2) (o := 5) (v := .string f5) hS2.2.2.2.2.1 rfl, setCell_self (w := w2) (o := 6) (v := .string f6) hS2.2.2.2.2.1 rfl]
  obtain ⟨_, _, _, _, hh0, hh1, hBel⟩ := hS2
  have A := at_block (s := ⟨f0, f1, f2, f3, f4, f5, f6, f7, f8, f9, f10, f11⟩) hh0
  have Z := at_block (s := zs) hh1
  have zf : ∀ i, w2.frozen? ⟨w.heap.size + 1, i, none⟩ = false := by
    intro i
    simp [World.frozen?, hh1]
  have a0 := A 0 _ rfl
  have a1 := A 1 _ rfl
  have a2 := A 2 _ rfl
  have a3 := A 3 _ rfl
  have a4 := A 4 _ rfl
  have a5 := A 5 _ rfl
  have a6 := A 6 _ rfl
  have a7 := A 7 _ rfl
  have a8 := A 8 _ rfl
  have a9 := A 9 _ rfl
  have a10 := A 10 _ rfl
  have a11 := A 11 _ rfl
  have z0 := Z 0 _ rfl
  have z1 := Z 1 _ rfl
  have z2 := Z 2 _ rfl
  have z3 := Z 3 _ rfl
  have z4 := Z 4 _ rfl
  have z5 := Z 5 _ rfl
  have z6 := Z 6 _ rfl
  have z7 := Z 7 _ rfl
  have z8 := Z 8 _ rfl
  have z9 := Z 9 _ rfl
  have z10 := Z 10 _ rfl
  have z11 := Z 11 _ rfl
  clear A Z hh0
  have HH1 : Hid (w2.heap[w.heap.size + 1]? = some (.cells zs.arr 46 (0, 0))) := hh1
  clear hh1
  go_wp2
  refine bodyPost_ret (results_cell_row rfl _ _ (w.heap.size + 1) _ _ _ _ rfl (putS_heap (z := zs) ⟨f0, f1, f2, f3, f4, f5, f6, f7, f8, f9, f10, f11⟩ HH1.out) Tryd.underlying46 rfl (sesSize _)) rfl ?_
  exact ⟨rfl, putS_below (b := w.heap.size + 1) ⟨f0, f1, f2, f3, f4, f5, f6, f7, f8, f9, f10, f11⟩ hBel (Nat.le_succ _)⟩
end Lv
end Go.Proofs.YtfhnfejghngoeaaDoor
