/- DecE, DecF, DecG, DecH, DecI, DecJ, in one text. -/
import Derived.Test.YtnllplholfhbdaaDoorTknE
import Derived.Test.YtnllplholfhbdaaDoorBytE
import Derived.Test.YtnllplholfhbdaaDoorMayM
/- The document's answer what bytes tell: a session, one number or text behind the other. -/
namespace Go.Proofs.YtnllplholfhbdaaDoor
set_option linter.ambiguousOpen false
open Go.RowKit
namespace Ev
open Pk Sm Ft
set_option linter.unusedSimpArgs false
set_option linter.unusedVariables false

/-- It is put into a variable. -/
def putN (w : World) (b : Nat) (s : Sn) : World := (((((((((((w.setCell ⟨b, 0, none⟩ (nu s.slot)).setCell ⟨b, 1, none⟩ (nu s.birth)).setCell ⟨b, 2, none⟩ (nu s.us)).setCell ⟨b, 3, none⟩ (nu s.ub)).setCell ⟨b, 4, none⟩ (nu s.kind)).setCell ⟨b, 5, none⟩ (.string (tx s.user))).setCell ⟨b, 6, none⟩ (.string (tx s.label))).setCell ⟨b, 7, none⟩ (.int .u64 s.scopes)).setCell ⟨b, 8, none⟩ (nu s.level)).setCell ⟨b, 9, none⟩ (nu s.born)).setCell ⟨b, 10, none⟩ (nu s.deadline)).setCell ⟨b, 11, none⟩ (nu s.depth)

theorem putN_heap {w : World} {b : Nat} {z : Sn} (s : Sn) (h : w.heap[b]? = some (.cells z.arr 27 (0, 0))) : (putN w b s).heap[b]? = some (.cells s.arr 27 (0, 0)) := by
  have h0 := heap_setCell_same _ b 0 _ _ (nu s.slot) h
  have h1 := heap_setCell_same _ b 1 _ _ (nu s.birth) h0
  have h2 := heap_setCell_same _ b 2 _ _ (nu s.us) h1
  have h3 := heap_setCell_same _ b 3 _ _ (nu s.ub) h2
  have h4 := heap_setCell_same _ b 4 _ _ (nu s.kind) h3
  have h5 := heap_setCell_same _ b 5 _ _ (.string (tx s.user)) h4
  have h6 := heap_setCell_same _ b 6 _ _ (.string (tx s.label)) h5
  have h7 := heap_setCell_same _ b 7 _ _ (.int .u64 s.scopes) h6
  have h8 := heap_setCell_same _ b 8 _ _ (nu s.level) h7
  have h9 := heap_setCell_same _ b 9 _ _ (nu s.born) h8
  have h10 := heap_setCell_same _ b 10 _ _ (nu s.deadline) h9
  have h11 := heap_setCell_same _ b 11 _ _ (nu s.depth) h10
  unfold putN
  refine h11.trans (congrArg (fun c => some (Obj.cells c 27 (0, 0))) ?_)
  simp only [Sn.arr, List.setIfInBounds_toArray, List.set]

theorem putN_other {w : World} {b k : Nat} (s : Sn) (hk : k ≠ b) : (putN w b s).heap[k]? = w.heap[k]? := by
  unfold putN
  simp only [heap_setCell_other _ _ _ _ (show k ≠ (⟨b, _, none⟩ : Addr).block from hk)]

theorem putN_keep {w0 w : World} {G : Nat → Prop} {b : Nat} (s : Sn) (h : Keep G w0 w) (hb : G b ∨ w0.heap.size ≤ b) : Keep G w0 (putN w b s) := by
  unfold putN
  iterate 12 (refine Keep.setCell ?_ hb _)
  exact h

theorem sizeN (s : Sn) : (Tryd.prog.info? 27).map (·.size) = some s.arr.size := by
  show _ = some 12
  kernel_rfl

/-- It is put into a variable. -/
def putE (w : World) (b : Nat) (e : Evt) : World := ((((((((((((((w.setCell ⟨b, 0, none⟩ (nu e.kind)).setCell ⟨b, 1, none⟩ (nu e.s.slot)).setCell ⟨b, 2, none⟩ (nu e.s.birth)).setCell ⟨b, 3, none⟩ (nu e.s.us)).setCell ⟨b, 4, none⟩ (nu e.s.ub)).setCell ⟨b, 5, none⟩ (nu e.s.kind)).setCell ⟨b, 6, none⟩ (.string (tx e.s.user))).setCell ⟨b, 7, none⟩ (.string (tx e.s.label))).setCell ⟨b, 8, none⟩ (.int .u64 e.s.scopes)).setCell ⟨b, 9, none⟩ (nu e.s.level)).setCell ⟨b, 10, none⟩ (nu e.s.born)).setCell ⟨b, 11, none⟩ (nu e.s.deadline)).setCell ⟨b, 12, none⟩ (nu e.s.depth)).setCell ⟨b, 13, none⟩ (nu e.birth)).setCell ⟨b, 14, none⟩ (nu e.ticks)

theorem putE_heap {w : World} {b : Nat} {z : Evt} (e : Evt) (h : w.heap[b]? = some (.cells z.arr 29 (0, 0))) : (putE w b e).heap[b]? = some (.cells e.arr 29 (0, 0)) := by
  have h0 := heap_setCell_same _ b 0 _ _ (nu e.kind) h
  have h1 := heap_setCell_same _ b 1 _ _ (nu e.s.slot) h0
  have h2 := heap_setCell_same _ b 2 _ _ (nu e.s.birth) h1
  have h3 := heap_setCell_same _ b 3 _ _ (nu e.s.us) h2
  have h4 := heap_setCell_same _ b 4 _ _ (nu e.s.ub) h3
  have h5 := heap_setCell_same _ b 5 _ _ (nu e.s.kind) h4
  have h6 := heap_setCell_same _ b 6 _ _ (.string (tx e.s.user)) h5
  have h7 := heap_setCell_same _ b 7 _ _ (.string (tx e.s.label)) h6
  have h8 := heap_setCell_same _ b 8 _ _ (.int .u64 e.s.scopes) h7
  have h9 := heap_setCell_same _ b 9 _ _ (nu e.s.level) h8
  have h10 := heap_setCell_same _ b 10 _ _ (nu e.s.born) h9
  have h11 := heap_setCell_same _ b 11 _ _ (nu e.s.deadline) h10
  have h12 := heap_setCell_same _ b 12 _ _ (nu e.s.depth) h11
  have h13 := heap_setCell_same _ b 13 _ _ (nu e.birth) h12
  have h14 := heap_setCell_same _ b 14 _ _ (nu e.ticks) h13
  unfold putE
  refine h14.trans (congrArg (fun c => some (Obj.cells c 29 (0, 0))) ?_)
  simp only [Evt.arr, List.setIfInBounds_toArray, List.set]

theorem putE_other {w : World} {b k : Nat} (e : Evt) (hk : k ≠ b) : (putE w b e).heap[k]? = w.heap[k]? := by
  unfold putE
  simp only [heap_setCell_other _ _ _ _ (show k ≠ (⟨b, _, none⟩ : Addr).block from hk)]

theorem putE_keep {w0 w : World} {G : Nat → Prop} {b : Nat} (e : Evt) (h : Keep G w0 w) (hb : G b ∨ w0.heap.size ≤ b) : Keep G w0 (putE w b e) := by
  unfold putE
  iterate 15 (refine Keep.setCell ?_ hb _)
  exact h

theorem sizeE (e : Evt) : (Tryd.prog.info? 29).map (·.size) = some e.arr.size := by
  show _ = some 15
  kernel_rfl

theorem results_evt {fn : Func} {p u : Tmp} (h : fn.results = #[.cell p 29, .tmp u]) (tmps : Array Value) (w : World) (g : Nat) (e : Evt)
    (hp : tmps.getD p undef = .pointer (some ⟨g, 0, none⟩)) (hg : w.heap[g]? = some (.cells e.arr 29 (0, 0))) :
    (results fn tmps).run Tryd.prog w = .ok (.tuple #[.agg e.arr, tmps.getD u undef]) w := by
  rw [results_cell_tmp h, hp]
  simp only [asAddr, Sem.run_pure, Result.andThen_ok, run_loadVar_row w g _ 29 _ _ _ hg Tryd.underlying29 rfl (sizeE e)]

/-- A session under way: what was taken, the result's block, the session's block. -/
structure Bn (wE w0 w : World) (p : Nat) (t : Tkn) (v : Value) (rb sb : Nat) (xs : Array Value) : Prop where
  tk : TkR w0 w p t v
  rblk : w.heap[rb]? = some (.cells Sn.zero.arr 27)
  sblk : w.heap[sb]? = some (.cells xs 27)
  n1 : rb ≠ p
  n2 : sb ≠ p
  n3 : rb ≠ sb
  r0 : wE.heap.size ≤ rb
  s0 : wE.heap.size ≤ sb
  w0E : w0.heap.size ≤ wE.heap.size
  K : Keep (fun k => k = p) wE w

theorem Bn.call {wE w0 w w' : World} {p : Nat} {t t' : Tkn} {v v' : Value} {rb sb : Nat} {xs : Array Value} (h : Bn wE w0 w p t v rb sb xs) (ht : TkR w0 w' p t' v') (hk : Keep (fun k => k = p) w w') : Bn wE w0 w' p t' v' rb sb xs :=
  ⟨ht, hk.at h.rblk h.n1, hk.at h.sblk h.n2, h.n1, h.n2, h.n3, h.r0, h.s0, h.w0E, h.K.trans hk (fun _ _ h => h)⟩

theorem Bn.set {wE w0 w : World} {p : Nat} {t : Tkn} {v : Value} {rb sb : Nat} {xs ys : Array Value} (h : Bn wE w0 w p t v rb sb xs) (j : Nat) (u : Value) (hy : xs.setIfInBounds j u = ys) : Bn wE w0 (w.setCell ⟨sb, j, none⟩ u) p t v rb sb ys := by
  have hK : Keep (fun k => k = sb) w (w.setCell ⟨sb, j, none⟩ u) := (Keep.refl (fun k => k = sb) w).setCell (p := ⟨sb, j, none⟩) (.inl rfl) _
  have hB := heap_setCell_same _ sb j _ _ u h.sblk
  rw [hy] at hB
  exact ⟨h.tk.keep hK (fun e => h.n2 e.symm) (fun k hk e => by have := h.s0; have := h.w0E; omega), hK.at h.rblk h.n3, hB, h.n1, h.n2, h.n3, h.r0, h.s0, h.w0E, h.K.setCell (p := ⟨sb, j, none⟩) (.inr h.s0) _⟩

theorem Bn.at {wE w0 w : World} {p : Nat} {t : Tkn} {v : Value} {rb sb : Nat} {xs : Array Value} (h : Bn wE w0 w p t v rb sb xs) (j : Nat) (u : Value) (hj : xs[j]? = some u) : w.cell? ⟨sb, j, none⟩ = some u ∧ w.frozen? ⟨sb, j, none⟩ = false :=
  ⟨cell_of h.sblk hj, by simp [World.frozen?, h.sblk]⟩

theorem Bn.frz {wE w0 w : World} {p : Nat} {t : Tkn} {v : Value} {rb sb : Nat} {xs : Array Value} (h : Bn wE w0 w p t v rb sb xs) (j : Nat) : w.frozen? ⟨rb, j, none⟩ = false := by simp [World.frozen?, h.rblk]

theorem bornT_eq (t : Tkn) {v1 v2 v3 v4 v5 v9 v10 v11 v12 : Int} {v6 v7 : List UInt8} {v8 : Nat} {t1 t2 t3 t4 t5 t6 t7 t8 t9 t10 t11 t12 : Tkn} (h1 : intT t = (v1, t1)) (h2 : intT t1 = (v2, t2)) (h3 : intT t2 = (v3, t3)) (h4 : intT t3 = (v4, t4)) (h5 : intT t4 = (v5, t5)) (h6 : txtT t5 = (v6, t6)) (h7 : txtT t6 = (v7, t7)) (h8 : numT t7 = (v8, t8)) (h9 : intT t8 = (v9, t9)) (h10 : intT t9 = (v10, t10)) (h11 : intT t10 = (v11, t11)) (h12 : intT t11 = (v12, t12)) :
    bornT t = (⟨v1, v2, v3, v4, v5, v6, v7, (v8 : Int), v9, v10, v11, v12⟩, t12) := by
  unfold bornT
  simp only [h1, h2, h3, h4, h5, h6, h7, h8, h9, h10, h11, h12]

set_option maxRecDepth 100000 in
set_option maxHeartbeats 8000000 in
theorem tborn (w0 w : World) (p : Nat) (t : Tkn) (v : Value) (h : TkR w0 w p t v) :
    Calls Tryd.prog 33 #[ptr p] w fun e w' => e = .returned (.agg (bornT t).1.arr) ∧ ∃ v', TkR w0 w' p (bornT t).2 v' ∧ Keep (fun k => k = p) w w' := by
  have hlt := h.lt
  have hws := h.bel.size
  have h0b : Below w.heap.size w ((w.alloc (.cells Sn.zero.arr 27)).alloc (.cells Sn.zero.arr 27)) := ((Below.refl _ w).alloc (Nat.le_refl _) _).alloc (by simp) _
  have hBn : Bn w w0 ((w.alloc (.cells Sn.zero.arr 27)).alloc (.cells Sn.zero.arr 27)) p t v w.heap.size (w.heap.size + 1) Sn.zero.arr := by
    have s1 : (w.alloc (.cells Sn.zero.arr 27)).heap.size = w.heap.size + 1 := by simp
    have a := heap_alloc_new w (.cells Sn.zero.arr 27)
    have b := heap_alloc_new (w.alloc (.cells Sn.zero.arr 27)) (.cells Sn.zero.arr 27)
    rw [s1] at b
    exact ⟨h.keep (Keep.of_below (F := fun _ => False) h0b) (fun h => h) (fun _ _ h => h), by rw [Below.heap_alloc _ _ _ (by omega)]; exact a, b, by omega, by omega, by omega, Nat.le_refl _, by omega, hws, Keep.of_below h0b⟩
  obtain ⟨v1, t1, g1⟩ : ∃ v t', intT t = (v, t') := ⟨_, _, rfl⟩
  obtain ⟨v2, t2, g2⟩ : ∃ v t', intT t1 = (v, t') := ⟨_, _, rfl⟩
  obtain ⟨v3, t3, g3⟩ : ∃ v t', intT t2 = (v, t') := ⟨_, _, rfl⟩
  obtain ⟨v4, t4, g4⟩ : ∃ v t', intT t3 = (v, t') := ⟨_, _, rfl⟩
  obtain ⟨v5, t5, g5⟩ : ∃ v t', intT t4 = (v, t') := ⟨_, _, rfl⟩
  obtain ⟨v6, t6, g6⟩ : ∃ v t', txtT t5 = (v, t') := ⟨_, _, rfl⟩
  obtain ⟨v7, t7, g7⟩ : ∃ v t', txtT t6 = (v, t') := ⟨_, _, rfl⟩
  obtain ⟨v8, t8, g8⟩ : ∃ v t', numT t7 = (v, t') := ⟨_, _, rfl⟩
  obtain ⟨v9, t9, g9⟩ : ∃ v t', intT t8 = (v, t') := ⟨_, _, rfl⟩
  obtain ⟨v10, t10, g10⟩ : ∃ v t', intT t9 = (v, t') := ⟨_, _, rfl⟩
  obtain ⟨v11, t11, g11⟩ : ∃ v t', intT t10 = (v, t') := ⟨_, _, rfl⟩
  obtain ⟨v12, t12, g12⟩ : ∃ v t', intT t11 = (v, t') := ⟨_, _, rfl⟩
  have c1 : Hid (∀ wx vx, TkR w0 wx p t vx → Calls Tryd.prog 34 #[ptr p] wx fun e w' => e = .returned (nu v1) ∧ ∃ v', TkR w0 w' p t1 v' ∧ Keep (fun k => k = p) wx w') := fun wx vx hx => by
    have := tint w0 wx p t vx hx
    rw [g1] at this
    exact this
  have c2 : Hid (∀ wx vx, TkR w0 wx p t1 vx → Calls Tryd.prog 34 #[ptr p] wx fun e w' => e = .returned (nu v2) ∧ ∃ v', TkR w0 w' p t2 v' ∧ Keep (fun k => k = p) wx w') := fun wx vx hx => by
    have := tint w0 wx p t1 vx hx
    rw [g2] at this
    exact this
  have c3 : Hid (∀ wx vx, TkR w0 wx p t2 vx → Calls Tryd.prog 34 #[ptr p] wx fun e w' => e = .returned (nu v3) ∧ ∃ v', TkR w0 w' p t3 v' ∧ Keep (fun k => k = p) wx w') := fun wx vx hx => by
    have := tint w0 wx p t2 vx hx
    rw [g3] at this
    exact this
  have c4 : Hid (∀ wx vx, TkR w0 wx p t3 vx → Calls Tryd.prog 34 #[ptr p] wx fun e w' => e = .returned (nu v4) ∧ ∃ v', TkR w0 w' p t4 v' ∧ Keep (fun k => k = p) wx w') := fun wx vx hx => by
    have := tint w0 wx p t3 vx hx
    rw [g4] at this
    exact this
  have c5 : Hid (∀ wx vx, TkR w0 wx p t4 vx → Calls Tryd.prog 34 #[ptr p] wx fun e w' => e = .returned (nu v5) ∧ ∃ v', TkR w0 w' p t5 v' ∧ Keep (fun k => k = p) wx w') := fun wx vx hx => by
    have := tint w0 wx p t4 vx hx
    rw [g5] at this
    exact this
  have c6 : Hid (∀ wx vx, TkR w0 wx p t5 vx → Calls Tryd.prog 52 #[ptr p] wx fun e w' => e = .returned (.string (tx v6)) ∧ ∃ v', TkR w0 w' p t6 v' ∧ Keep (fun k => k = p) wx w') := fun wx vx hx => by
    have := ttext w0 wx p t5 vx hx
    rw [g6] at this
    exact this
  have c7 : Hid (∀ wx vx, TkR w0 wx p t6 vx → Calls Tryd.prog 52 #[ptr p] wx fun e w' => e = .returned (.string (tx v7)) ∧ ∃ v', TkR w0 w' p t7 v' ∧ Keep (fun k => k = p) wx w') := fun wx vx hx => by
    have := ttext w0 wx p t6 vx hx
    rw [g7] at this
    exact this
  have c8 : Hid (∀ wx vx, TkR w0 wx p t7 vx → Calls Tryd.prog 32 #[ptr p] wx fun e w' => e = .returned (.int .u64 (v8 : Int)) ∧ ∃ v', TkR w0 w' p t8 v' ∧ Keep (fun k => k = p) wx w') := fun wx vx hx => by
    have := tnumber w0 wx p t7 vx hx
    rw [g8] at this
    exact this
  have c9 : Hid (∀ wx vx, TkR w0 wx p t8 vx → Calls Tryd.prog 34 #[ptr p] wx fun e w' => e = .returned (nu v9) ∧ ∃ v', TkR w0 w' p t9 v' ∧ Keep (fun k => k = p) wx w') := fun wx vx hx => by
    have := tint w0 wx p t8 vx hx
    rw [g9] at this
    exact this
  have c10 : Hid (∀ wx vx, TkR w0 wx p t9 vx → Calls Tryd.prog 34 #[ptr p] wx fun e w' => e = .returned (nu v10) ∧ ∃ v', TkR w0 w' p t10 v' ∧ Keep (fun k => k = p) wx w') := fun wx vx hx => by
    have := tint w0 wx p t9 vx hx
    rw [g10] at this
    exact this
  have c11 : Hid (∀ wx vx, TkR w0 wx p t10 vx → Calls Tryd.prog 34 #[ptr p] wx fun e w' => e = .returned (nu v11) ∧ ∃ v', TkR w0 w' p t11 v' ∧ Keep (fun k => k = p) wx w') := fun wx vx hx => by
    have := tint w0 wx p t10 vx hx
    rw [g11] at this
    exact this
  have c12 : Hid (∀ wx vx, TkR w0 wx p t11 vx → Calls Tryd.prog 34 #[ptr p] wx fun e w' => e = .returned (nu v12) ∧ ∃ v', TkR w0 w' p t12 v' ∧ Keep (fun k => k = p) wx w') := fun wx vx hx => by
    have := tint w0 wx p t11 vx hx
    rw [g12] at this
    exact this
  have hT : Hid (bornT t = (⟨v1, v2, v3, v4, v5, v6, v7, (v8 : Int), v9, v10, v11, v12⟩, t12)) := bornT_eq t g1 g2 g3 g4 g5 g6 g7 g8 g9 g10 g11 g12
  clear g1 g2 g3 g4 g5 g6 g7 g8 g9 g10 g11 g12 h h0b
  obtain ⟨f6, hf6⟩ : ∃ f, tx v6 = f := ⟨_, rfl⟩
  obtain ⟨f7, hf7⟩ : ∃ f, tx v7 = f := ⟨_, rfl⟩
  rw [hf6] at c6
  rw [hf7] at c7
  have HF6 := Hid.mk' hf6
  have HF7 := Hid.mk' hf7
  clear hf6 hf7
  have HZ : Hid (Sn.zero.arr = #[nu 0, nu 0, nu 0, nu 0, nu 0, .string ⟨#[]⟩, .string ⟨#[]⟩, .int .u64 0, nu 0, nu 0, nu 0, nu 0]) := rfl
  rw [HZ.out] at hBn
  have HN0 := Hid.mk' hBn
  clear hBn
  go_enter Tryd.func33, Tryd.ntmps33
  go_wp2_with fail
  refine (c1.out _ _ HN0.out.tk).mono ?_
  rintro e x1 ⟨rfl, y1, ht1, hk1⟩
  have hM1 := HN0.out.call ht1 hk1
  obtain ⟨a1, b1⟩ := hM1.at 0 (nu 0) rfl
  have HN1 := Hid.mk' (hM1.set 0 (nu v1) (ys := #[nu v1, nu 0, nu 0, nu 0, nu 0, .string ⟨#[]⟩, .string ⟨#[]⟩, .int .u64 0, nu 0, nu 0, nu 0, nu 0]) rfl)
  clear ht1 hk1 hM1 c1
  go_wp2_with fail
  refine (c2.out _ _ HN1.out.tk).mono ?_
  rintro e x2 ⟨rfl, y2, ht2, hk2⟩
  have hM2 := HN1.out.call ht2 hk2
  obtain ⟨a2, b2⟩ := hM2.at 1 (nu 0) rfl
  have HN2 := Hid.mk' (hM2.set 1 (nu v2) (ys := #[nu v1, nu v2, nu 0, nu 0, nu 0, .string ⟨#[]⟩, .string ⟨#[]⟩, .int .u64 0, nu 0, nu 0, nu 0, nu 0]) rfl)
  clear ht2 hk2 hM2 c2 a1 b1
  go_wp2_with fail
  refine (c3.out _ _ HN2.out.tk).mono ?_
  rintro e x3 ⟨rfl, y3, ht3, hk3⟩
  have hM3 := HN2.out.call ht3 hk3
  obtain ⟨a3, b3⟩ := hM3.at 2 (nu 0) rfl
  have HN3 := Hid.mk' (hM3.set 2 (nu v3) (ys := #[nu v1, nu v2, nu v3, nu 0, nu 0, .string ⟨#[]⟩, .string ⟨#[]⟩, .int .u64 0, nu 0, nu 0, nu 0, nu 0]) rfl)
  clear ht3 hk3 hM3 c3 a2 b2
  go_wp2_with fail
  refine (c4.out _ _ HN3.out.tk).mono ?_
  rintro e x4 ⟨rfl, y4, ht4, hk4⟩
  have hM4 := HN3.out.call ht4 hk4
  obtain ⟨a4, b4⟩ := hM4.at 3 (nu 0) rfl
  have HN4 := Hid.mk' (hM4.set 3 (nu v4) (ys := #[nu v1, nu v2, nu v3, nu v4, nu 0, .string ⟨#[]⟩, .string ⟨#[]⟩, .int .u64 0, nu 0, nu 0, nu 0, nu 0]) rfl)
  clear ht4 hk4 hM4 c4 a3 b3
  go_wp2_with fail
  refine (c5.out _ _ HN4.out.tk).mono ?_
  rintro e x5 ⟨rfl, y5, ht5, hk5⟩
  have hM5 := HN4.out.call ht5 hk5
  obtain ⟨a5, b5⟩ := hM5.at 4 (nu 0) rfl
  have HN5 := Hid.mk' (hM5.set 4 (nu v5) (ys := #[nu v1, nu v2, nu v3, nu v4, nu v5, .string ⟨#[]⟩, .string ⟨#[]⟩, .int .u64 0, nu 0, nu 0, nu 0, nu 0]) rfl)
  clear ht5 hk5 hM5 c5 a4 b4
  go_wp2_with fail
  refine (c6.out _ _ HN5.out.tk).mono ?_
  rintro e x6 ⟨rfl, y6, ht6, hk6⟩
  have hM6 := HN5.out.call ht6 hk6
  obtain ⟨a6, b6⟩ := hM6.at 5 (.string ⟨#[]⟩) rfl
  have HN6 := Hid.mk' (hM6.set 5 (.string f6) (ys := #[nu v1, nu v2, nu v3, nu v4, nu v5, .string f6, .string ⟨#[]⟩, .int .u64 0, nu 0, nu 0, nu 0, nu 0]) rfl)
  clear ht6 hk6 hM6 c6 a5 b5
  go_wp2_with fail
  refine (c7.out _ _ HN6.out.tk).mono ?_
  rintro e x7 ⟨rfl, y7, ht7, hk7⟩
  have hM7 := HN6.out.call ht7 hk7
  obtain ⟨a7, b7⟩ := hM7.at 6 (.string ⟨#[]⟩) rfl
  have HN7 := Hid.mk' (hM7.set 6 (.string f7) (ys := #[nu v1, nu v2, nu v3, nu v4, nu v5, .string f6, .string f7, .int .u64 0, nu 0, nu 0, nu 0, nu 0]) rfl)
  clear ht7 hk7 hM7 c7 a6 b6
  go_wp2_with fail
  refine (c8.out _ _ HN7.out.tk).mono ?_
  rintro e x8 ⟨rfl, y8, ht8, hk8⟩
  have hM8 := HN7.out.call ht8 hk8
  obtain ⟨a8, b8⟩ := hM8.at 7 (.int .u64 0) rfl
  have HN8 := Hid.mk' (hM8.set 7 (.int .u64 (v8 : Int)) (ys := #[nu v1, nu v2, nu v3, nu v4, nu v5, .string f6, .string f7, .int .u64 (v8 : Int), nu 0, nu 0, nu 0, nu 0]) rfl)
  clear ht8 hk8 hM8 c8 a7 b7
  go_wp2_with fail
  refine (c9.out _ _ HN8.out.tk).mono ?_
  rintro e x9 ⟨rfl, y9, ht9, hk9⟩
  have hM9 := HN8.out.call ht9 hk9
  obtain ⟨a9, b9⟩ := hM9.at 8 (nu 0) rfl
  have HN9 := Hid.mk' (hM9.set 8 (nu v9) (ys := #[nu v1, nu v2, nu v3, nu v4, nu v5, .string f6, .string f7, .int .u64 (v8 : Int), nu v9, nu 0, nu 0, nu 0]) rfl)
  clear ht9 hk9 hM9 c9 a8 b8
  go_wp2_with fail
  refine (c10.out _ _ HN9.out.tk).mono ?_
  rintro e x10 ⟨rfl, y10, ht10, hk10⟩
  have hM10 := HN9.out.call ht10 hk10
  obtain ⟨a10, b10⟩ := hM10.at 9 (nu 0) rfl
  have HN10 := Hid.mk' (hM10.set 9 (nu v10) (ys := #[nu v1, nu v2, nu v3, nu v4, nu v5, .string f6, .string f7, .int .u64 (v8 : Int), nu v9, nu v10, nu 0, nu 0]) rfl)
  clear ht10 hk10 hM10 c10 a9 b9
  go_wp2_with fail
  refine (c11.out _ _ HN10.out.tk).mono ?_
  rintro e x11 ⟨rfl, y11, ht11, hk11⟩
  have hM11 := HN10.out.call ht11 hk11
  obtain ⟨a11, b11⟩ := hM11.at 10 (nu 0) rfl
  have HN11 := Hid.mk' (hM11.set 10 (nu v11) (ys := #[nu v1, nu v2, nu v3, nu v4, nu v5, .string f6, .string f7, .int .u64 (v8 : Int), nu v9, nu v10, nu v11, nu 0]) rfl)
  clear ht11 hk11 hM11 c11 a10 b10
  go_wp2_with fail
  refine (c12.out _ _ HN11.out.tk).mono ?_
  rintro e x12 ⟨rfl, y12, ht12, hk12⟩
  have hM12 := HN11.out.call ht12 hk12
  obtain ⟨a12, b12⟩ := hM12.at 11 (nu 0) rfl
  have HN12 := Hid.mk' (hM12.set 11 (nu v12) (ys := #[nu v1, nu v2, nu v3, nu v4, nu v5, .string f6, .string f7, .int .u64 (v8 : Int), nu v9, nu v10, nu v11, nu v12]) rfl)
  clear ht12 hk12 hM12 c12 a11 b11
  have r := HN12.out
  have s0 := (r.at 0 (nu v1) rfl).1
  have s1 := (r.at 1 (nu v2) rfl).1
  have s2 := (r.at 2 (nu v3) rfl).1
  have s3 := (r.at 3 (nu v4) rfl).1
  have s4 := (r.at 4 (nu v5) rfl).1
  have s5 := (r.at 5 (.string f6) rfl).1
  have s6 := (r.at 6 (.string f7) rfl).1
  have s7 := (r.at 7 (.int .u64 (v8 : Int)) rfl).1
  have s8 := (r.at 8 (nu v9) rfl).1
  have s9 := (r.at 9 (nu v10) rfl).1
  have s10 := (r.at 10 (nu v11) rfl).1
  have s11 := (r.at 11 (nu v12) rfl).1
  have HRB := Hid.mk' r.rblk
  rw [HZ.out] at HRB
  have z0 := cell_of (j := 0) HRB.out rfl
  have zf0 := r.frz 0
  have z1 := cell_of (j := 1) HRB.out rfl
  have zf1 := r.frz 1
  have z2 := cell_of (j := 2) HRB.out rfl
  have zf2 := r.frz 2
  have z3 := cell_of (j := 3) HRB.out rfl
  have zf3 := r.frz 3
  have z4 := cell_of (j := 4) HRB.out rfl
  have zf4 := r.frz 4
  have z5 := cell_of (j := 5) HRB.out rfl
  have zf5 := r.frz 5
  have z6 := cell_of (j := 6) HRB.out rfl
  have zf6 := r.frz 6
  have z7 := cell_of (j := 7) HRB.out rfl
  have zf7 := r.frz 7
  have z8 := cell_of (j := 8) HRB.out rfl
  have zf8 := r.frz 8
  have z9 := cell_of (j := 9) HRB.out rfl
  have zf9 := r.frz 9
  have z10 := cell_of (j := 10) HRB.out rfl
  have zf10 := r.frz 10
  have z11 := cell_of (j := 11) HRB.out rfl
  have zf11 := r.frz 11
  have HKE := Hid.mk' r.K
  have HTK := Hid.mk' r.tk
  have hn1 := r.n1
  clear r
  go_wp2
  have hf6 := HF6.out
  have hf7 := HF7.out
  subst hf6 hf7
  have HRZ : Hid ((x12.setCell ⟨w.heap.size + 1, 11, none⟩ (nu v12)).heap[w.heap.size]? = some (.cells Sn.zero.arr 27 (0, 0))) := by
    show _ = _
    rw [HZ.out]
    exact HRB.out
  refine bodyPost_ret (results_cell_row rfl _ _ w.heap.size _ _ _ _ rfl (putN_heap (z := Sn.zero) ⟨v1, v2, v3, v4, v5, v6, v7, (v8 : Int), v9, v10, v11, v12⟩ HRZ.out) Tryd.underlying27 rfl (sizeN _)) rfl ?_
  rw [hT.out]
  refine ⟨rfl, y12, ?_, putN_keep ⟨v1, v2, v3, v4, v5, v6, v7, (v8 : Int), v9, v10, v11, v12⟩ HKE.out (.inr (Nat.le_refl _))⟩
  exact HTK.out.keep (putN_keep (G := fun k => k = w.heap.size) ⟨v1, v2, v3, v4, v5, v6, v7, (v8 : Int), v9, v10, v11, v12⟩ (Keep.refl _ _) (.inl rfl)) (fun e => hn1 e.symm) (fun k hk e => by omega)
end Ev
end Go.Proofs.YtnllplholfhbdaaDoor
/- The document's answer what bytes tell, whole. -/
namespace Go.Proofs.YtnllplholfhbdaaDoor
set_option linter.ambiguousOpen false
open Go.RowKit
namespace Ev
open Pk Sm Ft
set_option linter.unusedSimpArgs false
set_option linter.unusedVariables false

theorem numT_lt (t : Tkn) : (numT t).1 < 18446744073709551616 := by
  obtain ⟨x, n, no, hn⟩ : ∃ x n no, Pk.num t.left = (x, n, no) := ⟨_, _, _, rfl⟩
  unfold numT
  rw [hn]
  simp only
  by_cases h0 : t.no ≠ 0
  · rw [if_pos h0]; simp
  · rw [if_neg h0]
    by_cases h1 : no ≠ 0
    · rw [if_pos h1]; simp
    · rw [if_neg h1]
      obtain rfl : no = 0 := by omega
      exact (num_back t.left x n hn).1

theorem txtT_len (t : Tkn) : (txtT t).1.length ≤ 32 := by
  obtain ⟨x, n, no, hn⟩ : ∃ x n no, taken t.left 32 = (x, n, no) := ⟨_, _, _, rfl⟩
  unfold txtT
  rw [hn]
  simp only
  by_cases h0 : t.no ≠ 0
  · rw [if_pos h0]; simp
  · rw [if_neg h0]
    by_cases h1 : no ≠ 0
    · rw [if_pos h1]; simp
    · rw [if_neg h1]
      obtain rfl : no = 0 := by omega
      exact (taken_back t.left 32 x n hn).2.2

theorem born_fit (t : Tkn) : (bornT t).1.user.length ≤ 65536 ∧ (bornT t).1.label.length ≤ 65536 ∧ (0 ≤ (bornT t).1.scopes ∧ (bornT t).1.scopes < 18446744073709551616) := by
  obtain ⟨v1, t1, h1⟩ : ∃ v t', intT t = (v, t') := ⟨_, _, rfl⟩
  obtain ⟨v2, t2, h2⟩ : ∃ v t', intT t1 = (v, t') := ⟨_, _, rfl⟩
  obtain ⟨v3, t3, h3⟩ : ∃ v t', intT t2 = (v, t') := ⟨_, _, rfl⟩
  obtain ⟨v4, t4, h4⟩ : ∃ v t', intT t3 = (v, t') := ⟨_, _, rfl⟩
  obtain ⟨v5, t5, h5⟩ : ∃ v t', intT t4 = (v, t') := ⟨_, _, rfl⟩
  have l6 := txtT_len t5
  obtain ⟨v6, t6, h6⟩ : ∃ v t', txtT t5 = (v, t') := ⟨_, _, rfl⟩
  have l7 := txtT_len t6
  obtain ⟨v7, t7, h7⟩ : ∃ v t', txtT t6 = (v, t') := ⟨_, _, rfl⟩
  have l8 := numT_lt t7
  obtain ⟨v8, t8, h8⟩ : ∃ v t', numT t7 = (v, t') := ⟨_, _, rfl⟩
  obtain ⟨v9, t9, h9⟩ : ∃ v t', intT t8 = (v, t') := ⟨_, _, rfl⟩
  obtain ⟨v10, t10, h10⟩ : ∃ v t', intT t9 = (v, t') := ⟨_, _, rfl⟩
  obtain ⟨v11, t11, h11⟩ : ∃ v t', intT t10 = (v, t') := ⟨_, _, rfl⟩
  obtain ⟨v12, t12, h12⟩ : ∃ v t', intT t11 = (v, t') := ⟨_, _, rfl⟩
  rw [bornT_eq t h1 h2 h3 h4 h5 h6 h7 h8 h9 h10 h11 h12]
  rw [h6] at l6
  rw [h7] at l7
  rw [h8] at l8
  simp only at l6 l7 l8 ⊢
  omega

/-- The answer under way: what was taken, the result's block. -/
structure Dn (wE w : World) (p : Nat) (t : Tkn) (v : Value) (rb : Nat) : Prop where
  tk : TkR wE w p t v
  rblk : w.heap[rb]? = some (.cells Evt.zero.arr 29 (0, 0))
  n1 : rb ≠ p
  r0 : wE.heap.size ≤ rb

theorem Dn.call {wE w w' : World} {p : Nat} {t t' : Tkn} {v v' : Value} {rb : Nat} (h : Dn wE w p t v rb) (ht : TkR wE w' p t' v') (hk : Keep (fun k => k = p) w w') : Dn wE w' p t' v' rb :=
  ⟨ht, hk.at h.rblk h.n1, h.n1, h.r0⟩

theorem Dn.alloc {wE w : World} {p : Nat} {t : Tkn} {v : Value} {rb : Nat} (h : Dn wE w p t v rb) (o : Obj) : Dn wE (w.alloc o) p t v rb := by
  have hb : Below w.heap.size w (w.alloc o) := (Below.refl _ _).alloc (Nat.le_refl _) _
  exact ⟨h.tk.keep (Keep.of_below (F := fun _ => False) hb) (fun h => h) (fun _ _ h => h), (hb.block rb (Array.getElem?_eq_some_iff.1 h.rblk).1).trans h.rblk, h.n1, h.r0⟩

theorem Dn.rcells {wE w : World} {p : Nat} {t : Tkn} {v : Value} {rb : Nat} (h : Dn wE w p t v rb) : w.heap[rb]? = some (.cells #[nu 0, nu 0, nu 0, nu 0, nu 0, nu 0, .string ⟨#[]⟩, .string ⟨#[]⟩, .int .u64 0, nu 0, nu 0, nu 0, nu 0, nu 0, nu 0] 29) := h.rblk

/-- Another block has turned. -/
theorem Dn.other {wE w w' : World} {p : Nat} {t : Tkn} {v : Value} {rb eb : Nat} (h : Dn wE w p t v rb) (hk : Keep (fun k => k = eb) w w') (h1 : eb ≠ p) (h2 : eb ≠ rb) (h3 : wE.heap.size ≤ eb) : Dn wE w' p t v rb :=
  ⟨h.tk.keep hk (fun e => h1 e.symm) (fun k hk e => by omega), hk.at h.rblk (fun e => h2 e.symm), h.n1, h.r0⟩

theorem setCell_self {w : World} {b o : Nat} {cs : Array Value} {t : TypeId} {fr : Nat × Nat} {v : Value} (h : w.heap[b]? = some (.cells cs t fr)) (hv : cs[o]? = some v) : w.setCell ⟨b, o, none⟩ v = w := by
  obtain ⟨hb, e⟩ := Array.getElem?_eq_some_iff.1 h
  obtain ⟨ho, eo⟩ := Array.getElem?_eq_some_iff.1 hv
  have e1 : (w.setCell ⟨b, o, none⟩ v).heap = w.heap := by
    unfold World.setCell
    apply Array.ext
    · simp
    · intro i h1 h2
      simp only [Array.getElem_modify]
      split
      · rename_i q
        subst q
        rw [e]
        simp only [Option.isSome_none, Bool.false_eq_true, if_false, Obj.cells.injEq, and_true]
        apply Array.ext
        · simp
        · intro j k1 k2
          rw [Array.getElem_setIfInBounds]
          split
          · rename_i q2; subst q2; exact eo.symm
          · rfl
      · rfl
  show ({ w with heap := (w.setCell ⟨b, o, none⟩ v).heap } : World) = w
  rw [e1]

theorem frz_of {w : World} {sb : Nat} {xs : Array Value} {t : TypeId} (h : w.heap[sb]? = some (.cells xs t)) (i : Nat) : w.frozen? ⟨sb, i, none⟩ = false := by simp [World.frozen?, h]

theorem putE_below {w0 w : World} {base b : Nat} (e : Evt) (h : Below base w0 w) (hb : base ≤ b) : Below base w0 (putE w b e) := by
  unfold putE
  iterate 15 (refine Below.setCell ?_ hb _)
  exact h

set_option maxRecDepth 100000 in
set_option maxHeartbeats 8000000 in
theorem decode_early (w : World) (v : Value) (b : List UInt8) (hR : RdB w v b) (k : Nat) (t1 : Tkn) (hk : numT ⟨b, 0, false⟩ = (k, t1)) (hc : t1.no ≠ 0 ∨ 2 < k) :
    Calls Tryd.prog 12 #[v] w fun e w' => e = .returned (.tuple #[.agg (decE b).1.arr, nu ((decE b).2 : Int)]) ∧ Below w.heap.size w w' := by
  have HK := Hid.mk' hk
  have hD0 : Dn w ((w.alloc (.cells Evt.zero.arr 29)).alloc (.cells #[v, nu 0, .bool false] 74)) (w.heap.size + 1) ⟨b, 0, false⟩ v w.heap.size := by
    have s1 : (w.alloc (.cells Evt.zero.arr 29)).heap.size = w.heap.size + 1 := by simp
    have a := heap_alloc_new w (.cells Evt.zero.arr 29)
    have b' := heap_alloc_new (w.alloc (.cells Evt.zero.arr 29)) (.cells #[v, nu 0, .bool false] 74)
    rw [s1] at b'
    exact ⟨⟨b', hR, ((Below.refl _ w).alloc (Nat.le_refl _) _).alloc (by simp) _, by omega⟩, by rw [Below.heap_alloc _ _ _ (by omega)]; exact a, by omega, Nat.le_refl _⟩
  have cK := Hid.mk' (tnumber _ _ _ _ _ hD0.tk)
  rw [hk] at cK
  have HD0 := Hid.mk' hD0
  obtain ⟨a, cap, rfl, hrest0⟩ := hR
  clear hrest0
  have HZ : Hid (Evt.zero.arr = #[nu 0, nu 0, nu 0, nu 0, nu 0, nu 0, .string ⟨#[]⟩, .string ⟨#[]⟩, .int .u64 0, nu 0, nu 0, nu 0, nu 0, nu 0, nu 0]) := rfl
  rw [HZ.out] at cK HD0
  clear hD0 hk
  by_cases h0 : t1.no ≠ 0
  · have h0' : ((t1.no : Int) != 0) = true := by simpa using h0
    have hV : Hid (decE b = (Evt.zero, t1.no)) := by
      show _ = _
      unfold decE
      rw [HK.out]
      simp only
      rw [if_pos h0]
    rw [hV.out]
    clear h0 hc
    go_enter Tryd.func12, Tryd.ntmps12
    go_wp2_with fail
    refine cK.out.mono ?_
    rintro e x1 ⟨rfl, y1, ht1, hk1⟩
    have hD1 := HD0.out.call ht1 hk1
    obtain ⟨p0, p1, p2, pf⟩ := ht1.cells
    have hrb := hD1.rcells
    have z0 := cell_of (j := 0) hrb rfl
    have s0 : x1.setCell ⟨w.heap.size, 0, none⟩ (nu 0) = x1 := setCell_self hrb rfl
    have d0 : x1.drew.setCell ⟨w.heap.size, 0, none⟩ (nu 0) = x1.drew := setCell_self (w := x1.drew) hrb rfl
    have z1 := cell_of (j := 1) hrb rfl
    have s1 : x1.setCell ⟨w.heap.size, 1, none⟩ (nu 0) = x1 := setCell_self hrb rfl
    have d1 : x1.drew.setCell ⟨w.heap.size, 1, none⟩ (nu 0) = x1.drew := setCell_self (w := x1.drew) hrb rfl
    have z2 := cell_of (j := 2) hrb rfl
    have s2 : x1.setCell ⟨w.heap.size, 2, none⟩ (nu 0) = x1 := setCell_self hrb rfl
    have d2 : x1.drew.setCell ⟨w.heap.size, 2, none⟩ (nu 0) = x1.drew := setCell_self (w := x1.drew) hrb rfl
    have z3 := cell_of (j := 3) hrb rfl
    have s3 : x1.setCell ⟨w.heap.size, 3, none⟩ (nu 0) = x1 := setCell_self hrb rfl
    have d3 : x1.drew.setCell ⟨w.heap.size, 3, none⟩ (nu 0) = x1.drew := setCell_self (w := x1.drew) hrb rfl
    have z4 := cell_of (j := 4) hrb rfl
    have s4 : x1.setCell ⟨w.heap.size, 4, none⟩ (nu 0) = x1 := setCell_self hrb rfl
    have d4 : x1.drew.setCell ⟨w.heap.size, 4, none⟩ (nu 0) = x1.drew := setCell_self (w := x1.drew) hrb rfl
    have z5 := cell_of (j := 5) hrb rfl
    have s5 : x1.setCell ⟨w.heap.size, 5, none⟩ (nu 0) = x1 := setCell_self hrb rfl
    have d5 : x1.drew.setCell ⟨w.heap.size, 5, none⟩ (nu 0) = x1.drew := setCell_self (w := x1.drew) hrb rfl
    have z6 := cell_of (j := 6) hrb rfl
    have s6 : x1.setCell ⟨w.heap.size, 6, none⟩ (.string ⟨#[]⟩) = x1 := setCell_self hrb rfl
    have d6 : x1.drew.setCell ⟨w.heap.size, 6, none⟩ (.string ⟨#[]⟩) = x1.drew := setCell_self (w := x1.drew) hrb rfl
    have z7 := cell_of (j := 7) hrb rfl
    have s7 : x1.setCell ⟨w.heap.size, 7, none⟩ (.string ⟨#[]⟩) = x1 := setCell_self hrb rfl
    have d7 : x1.drew.setCell ⟨w.heap.size, 7, none⟩ (.string ⟨#[]⟩) = x1.drew := setCell_self (w := x1.drew) hrb rfl
    have z8 := cell_of (j := 8) hrb rfl
    have s8 : x1.setCell ⟨w.heap.size, 8, none⟩ (.int .u64 0) = x1 := setCell_self hrb rfl
    have d8 : x1.drew.setCell ⟨w.heap.size, 8, none⟩ (.int .u64 0) = x1.drew := setCell_self (w := x1.drew) hrb rfl
    have z9 := cell_of (j := 9) hrb rfl
    have s9 : x1.setCell ⟨w.heap.size, 9, none⟩ (nu 0) = x1 := setCell_self hrb rfl
    have d9 : x1.drew.setCell ⟨w.heap.size, 9, none⟩ (nu 0) = x1.drew := setCell_self (w := x1.drew) hrb rfl
    have z10 := cell_of (j := 10) hrb rfl
    have s10 : x1.setCell ⟨w.heap.size, 10, none⟩ (nu 0) = x1 := setCell_self hrb rfl
    have d10 : x1.drew.setCell ⟨w.heap.size, 10, none⟩ (nu 0) = x1.drew := setCell_self (w := x1.drew) hrb rfl
    have z11 := cell_of (j := 11) hrb rfl
    have s11 : x1.setCell ⟨w.heap.size, 11, none⟩ (nu 0) = x1 := setCell_self hrb rfl
    have d11 : x1.drew.setCell ⟨w.heap.size, 11, none⟩ (nu 0) = x1.drew := setCell_self (w := x1.drew) hrb rfl
    have z12 := cell_of (j := 12) hrb rfl
    have s12 : x1.setCell ⟨w.heap.size, 12, none⟩ (nu 0) = x1 := setCell_self hrb rfl
    have d12 : x1.drew.setCell ⟨w.heap.size, 12, none⟩ (nu 0) = x1.drew := setCell_self (w := x1.drew) hrb rfl
    have z13 := cell_of (j := 13) hrb rfl
    have s13 : x1.setCell ⟨w.heap.size, 13, none⟩ (nu 0) = x1 := setCell_self hrb rfl
    have d13 : x1.drew.setCell ⟨w.heap.size, 13, none⟩ (nu 0) = x1.drew := setCell_self (w := x1.drew) hrb rfl
    have z14 := cell_of (j := 14) hrb rfl
    have s14 : x1.setCell ⟨w.heap.size, 14, none⟩ (nu 0) = x1 := setCell_self hrb rfl
    have d14 : x1.drew.setCell ⟨w.heap.size, 14, none⟩ (nu 0) = x1.drew := setCell_self (w := x1.drew) hrb rfl
    have zf : ∀ i, _ := frz_of hrb
    clear hrb
    have HB := Hid.mk' ht1.bel
    have HH := Hid.mk' hD1.rblk
    clear ht1 hk1 hD1 HD0 cK
    go_wp2_with fail
    go_region
    go_wp2
    refine bodyPost_ret (results_evt rfl _ _ w.heap.size Evt.zero rfl HH.out) rfl ?_
    exact ⟨rfl, HB.out.drew⟩
  · have h0' : ((t1.no : Int) != 0) = false := by simpa using h0
    have h2 : 2 < k := by
      rcases hc with hc | hc
      · exact absurd hc h0
      · exact hc
    have h2' : (2 : Int) < (k : Int) := by omega
    have hV : Hid (decE b = (Evt.zero, 1)) := by
      show _ = _
      unfold decE
      rw [HK.out]
      simp only
      rw [if_neg h0, if_pos h2]
    rw [hV.out]
    clear h0 hc h2
    go_enter Tryd.func12, Tryd.ntmps12
    go_wp2_with fail
    refine cK.out.mono ?_
    rintro e x1 ⟨rfl, y1, ht1, hk1⟩
    have hD1 := HD0.out.call ht1 hk1
    obtain ⟨p0, p1, p2, pf⟩ := ht1.cells
    have hrb := hD1.rcells
    have z0 := cell_of (j := 0) hrb rfl
    have s0 : x1.setCell ⟨w.heap.size, 0, none⟩ (nu 0) = x1 := setCell_self hrb rfl
    have z1 := cell_of (j := 1) hrb rfl
    have s1 : x1.setCell ⟨w.heap.size, 1, none⟩ (nu 0) = x1 := setCell_self hrb rfl
    have z2 := cell_of (j := 2) hrb rfl
    have s2 : x1.setCell ⟨w.heap.size, 2, none⟩ (nu 0) = x1 := setCell_self hrb rfl
    have z3 := cell_of (j := 3) hrb rfl
    have s3 : x1.setCell ⟨w.heap.size, 3, none⟩ (nu 0) = x1 := setCell_self hrb rfl
    have z4 := cell_of (j := 4) hrb rfl
    have s4 : x1.setCell ⟨w.heap.size, 4, none⟩ (nu 0) = x1 := setCell_self hrb rfl
    have z5 := cell_of (j := 5) hrb rfl
    have s5 : x1.setCell ⟨w.heap.size, 5, none⟩ (nu 0) = x1 := setCell_self hrb rfl
    have z6 := cell_of (j := 6) hrb rfl
    have s6 : x1.setCell ⟨w.heap.size, 6, none⟩ (.string ⟨#[]⟩) = x1 := setCell_self hrb rfl
    have z7 := cell_of (j := 7) hrb rfl
    have s7 : x1.setCell ⟨w.heap.size, 7, none⟩ (.string ⟨#[]⟩) = x1 := setCell_self hrb rfl
    have z8 := cell_of (j := 8) hrb rfl
    have s8 : x1.setCell ⟨w.heap.size, 8, none⟩ (.int .u64 0) = x1 := setCell_self hrb rfl
    have z9 := cell_of (j := 9) hrb rfl
    have s9 : x1.setCell ⟨w.heap.size, 9, none⟩ (nu 0) = x1 := setCell_self hrb rfl
    have z10 := cell_of (j := 10) hrb rfl
    have s10 : x1.setCell ⟨w.heap.size, 10, none⟩ (nu 0) = x1 := setCell_self hrb rfl
    have z11 := cell_of (j := 11) hrb rfl
    have s11 : x1.setCell ⟨w.heap.size, 11, none⟩ (nu 0) = x1 := setCell_self hrb rfl
    have z12 := cell_of (j := 12) hrb rfl
    have s12 : x1.setCell ⟨w.heap.size, 12, none⟩ (nu 0) = x1 := setCell_self hrb rfl
    have z13 := cell_of (j := 13) hrb rfl
    have s13 : x1.setCell ⟨w.heap.size, 13, none⟩ (nu 0) = x1 := setCell_self hrb rfl
    have z14 := cell_of (j := 14) hrb rfl
    have s14 : x1.setCell ⟨w.heap.size, 14, none⟩ (nu 0) = x1 := setCell_self hrb rfl
    have zf : ∀ i, _ := frz_of hrb
    clear hrb
    have HB := Hid.mk' ht1.bel
    have HH := Hid.mk' hD1.rblk
    clear ht1 hk1 hD1 HD0 cK
    go_wp2
    refine bodyPost_ret (results_evt rfl _ _ w.heap.size Evt.zero rfl HH.out) rfl ?_
    exact ⟨rfl, HB.out⟩
end Ev
end Go.Proofs.YtnllplholfhbdaaDoor
/- The document's answer what bytes tell, of each kind. -/
namespace Go.Proofs.YtnllplholfhbdaaDoor
set_option linter.ambiguousOpen false
open Go.RowKit
namespace Ev
open Pk Sm Ft
set_option linter.unusedSimpArgs false
set_option linter.unusedVariables false

theorem end_no (x : Evt) (t : Tkn) (h : t.no ≠ 0) : endT (x, t) = (Evt.zero, t.no) := by
  unfold endT
  simp only
  rw [if_pos h]

theorem end_left (x : Evt) (l : List UInt8) (g : Bool) (h : l ≠ []) : endT (x, ⟨l, 0, g⟩) = (Evt.zero, 3) := by
  unfold endT
  simp only
  rw [if_neg (by simp), if_pos h]

theorem end_bad (x : Evt) (g : Bool) (h : g = true ∨ mayE x = false) : endT (x, ⟨[], 0, g⟩) = (Evt.zero, 1) := by
  unfold endT
  simp only
  rw [if_neg (by simp), if_neg (by simp), if_pos (by rcases h with h | h <;> simp [h])]

theorem end_ok (x : Evt) (h : mayE x = true) : endT (x, ⟨[], 0, false⟩) = (x, 0) := by
  unfold endT
  simp only
  rw [if_neg (by simp), if_neg (by simp), if_neg (by simp [h])]

set_option maxRecDepth 100000 in
set_option maxHeartbeats 8000000 in
theorem decode_k1 (w : World) (v : Value) (b : List UInt8) (hR : RdB w v b) (l1 : List UInt8) (g1 : Bool) (hk : numT ⟨b, 0, false⟩ = (1, ⟨l1, 0, g1⟩)) (n : Int) (l2 : List UInt8) (no2 : Nat) (g2 : Bool) (hs : intT ⟨l1, 0, g1⟩ = (n, ⟨l2, no2, g2⟩))  :
    Calls Tryd.prog 12 #[v] w fun e w' => e = .returned (.tuple #[.agg (decE b).1.arr, nu ((decE b).2 : Int)]) ∧ Below w.heap.size w w' := by
  have hV0 : Hid (decE b = endT (⟨1, Sn.zero, n, 0⟩, ⟨l2, no2, g2⟩)) := by
    show _ = _
    rw [dec_go _ _ _ _ hk (by decide), rest1, hs]
  have hfit : Evt.fit ⟨1, Sn.zero, n, 0⟩ := ⟨by show ([] : List UInt8).length ≤ 65536; simp, by show ([] : List UInt8).length ≤ 65536; simp, by show (0 : Int) ≤ 0 ∧ (0 : Int) < _; decide⟩
  have cM : Hid (∀ wx, Calls Tryd.prog 22 #[.agg (Evt.arr ⟨1, Sn.zero, n, 0⟩)] wx fun x w' => x = .returned (.bool (mayE ⟨1, Sn.zero, n, 0⟩)) ∧ Below wx.heap.size wx w') := fun wx => may_ref _ wx hfit
  have HS := Hid.mk' hs
  clear hs
  have HK := Hid.mk' hk
  have hD0 : Dn w ((w.alloc (.cells Evt.zero.arr 29)).alloc (.cells #[v, nu 0, .bool false] 74)) (w.heap.size + 1) ⟨b, 0, false⟩ v w.heap.size := by
    have s1 : (w.alloc (.cells Evt.zero.arr 29)).heap.size = w.heap.size + 1 := by simp
    have a := heap_alloc_new w (.cells Evt.zero.arr 29)
    have b' := heap_alloc_new (w.alloc (.cells Evt.zero.arr 29)) (.cells #[v, nu 0, .bool false] 74)
    rw [s1] at b'
    exact ⟨⟨b', hR, ((Below.refl _ w).alloc (Nat.le_refl _) _).alloc (by simp) _, by omega⟩, by rw [Below.heap_alloc _ _ _ (by omega)]; exact a, by omega, Nat.le_refl _⟩
  have cK := Hid.mk' (tnumber _ _ _ _ _ hD0.tk)
  rw [hk] at cK
  have HD0 := Hid.mk' hD0
  obtain ⟨a, cap, rfl, hrest0⟩ := hR
  clear hrest0
  have HZ : Hid (Evt.zero.arr = #[nu 0, nu 0, nu 0, nu 0, nu 0, nu 0, .string ⟨#[]⟩, .string ⟨#[]⟩, .int .u64 0, nu 0, nu 0, nu 0, nu 0, nu 0, nu 0]) := rfl
  rw [HZ.out] at cK HD0
  clear hD0 hk
  have hEA : Evt.arr ⟨1, Sn.zero, n, 0⟩ = #[nu 1, nu 0, nu 0, nu 0, nu 0, nu 0, .string ⟨#[]⟩, .string ⟨#[]⟩, .int .u64 0, nu 0, nu 0, nu 0, nu 0, nu n, nu 0] := by
    skip
    rfl
  simp only [hEA] at cM
  obtain ⟨mv, hmv⟩ : ∃ m, mayE ⟨1, Sn.zero, n, 0⟩ = m := ⟨_, rfl⟩
  rw [hmv] at cM
  have HMV := Hid.mk' hmv
  clear hmv hfit hEA
  obtain ⟨D, hD⟩ : ∃ D, decE b = D := ⟨_, rfl⟩
  rw [hD] at hV0 ⊢
  have hVA : Hid (no2 ≠ 0 → D = (Evt.zero, no2)) := fun h => hV0.out.trans (end_no _ _ h)
  have hVB : Hid (no2 = 0 → l2 ≠ [] → D = (Evt.zero, 3)) := fun h0 h => by
    subst h0
    exact hV0.out.trans (end_left _ _ _ h)
  have hVC : Hid (no2 = 0 → l2 = [] → g2 = true → D = (Evt.zero, 1)) := fun h0 h1 h => by
    subst h0 h1
    exact hV0.out.trans (end_bad _ _ (.inl h))
  have hVD : Hid (no2 = 0 → l2 = [] → mv = false → D = (Evt.zero, 1)) := fun h0 h1 h => by
    subst h0 h1
    exact hV0.out.trans (end_bad _ _ (.inr (HMV.out.trans h)))
  have hVE : Hid (no2 = 0 → l2 = [] → g2 = false → mv = true → D = (⟨1, Sn.zero, n, 0⟩, 0)) := fun h0 h1 h2 h => by
    subst h0 h1 h2
    exact hV0.out.trans (end_ok _ (HMV.out.trans h))
  clear hV0 hD HMV HK
  go_enter Tryd.func12, Tryd.ntmps12
  go_wp2_with fail
  refine cK.out.mono ?_
  rintro e x1 ⟨rfl, y1, ht1, hk1⟩
  have hD1 := HD0.out.call ht1 hk1
  have hDa := hD1.alloc (.cells #[nu 1, nu 0, nu 0, nu 0, nu 0, nu 0, .string ⟨#[]⟩, .string ⟨#[]⟩, .int .u64 0, nu 0, nu 0, nu 0, nu 0, nu 0, nu 0] 29)
  have p1 : x1.cell? ⟨w.heap.size + 1, 1, none⟩ = some (nu 0) := ht1.cells.2.1
  have HD2 := Hid.mk' hDa
  have hx1 := ht1.lt
  have C := Hid.mk' (tint _ _ _ _ _ hDa.tk)
  rw [HS.out] at C
  simp only at C
  clear ht1 hk1 hD1 hDa HD0 cK HS
  go_wp2_with fail
  refine C.out.mono ?_
  rintro e x2 ⟨rfl, y2, ht2, hk2⟩
  have hD2 := HD2.out.call ht2 hk2
  have hp2 := hD2.n1
  have heb : x2.heap[x1.heap.size]? = some (.cells #[nu 1, nu 0, nu 0, nu 0, nu 0, nu 0, .string ⟨#[]⟩, .string ⟨#[]⟩, .int .u64 0, nu 0, nu 0, nu 0, nu 0, nu 0, nu 0] 29) := hk2.at (heap_alloc_new x1 _) (by omega)
  have a0 := cell_of (j := 13) heb rfl
  have af : ∀ i, _ := frz_of heb
  have hK3 : Keep (fun k => k = x1.heap.size) x2 ((x2).setCell ⟨x1.heap.size, 13, none⟩ (nu n)) := by
    iterate 1 (refine Keep.setCell (F := fun k => k = x1.heap.size) ?_ (.inl rfl) _)
    exact Keep.refl _ _
  have gc0 := heb
  have gc1 := heap_setCell_same _ x1.heap.size 13 _ _ (nu n) gc0
  have heb3 : ((x2).setCell ⟨x1.heap.size, 13, none⟩ (nu n)).heap[x1.heap.size]? = some (.cells #[nu 1, nu 0, nu 0, nu 0, nu 0, nu 0, .string ⟨#[]⟩, .string ⟨#[]⟩, .int .u64 0, nu 0, nu 0, nu 0, nu 0, nu n, nu 0] 29) := by
    refine gc1.trans (congrArg (fun c => some (Obj.cells c 29 (0, 0))) ?_)
    simp only [List.setIfInBounds_toArray, List.set]
  have hD3 : Dn w ((x2).setCell ⟨x1.heap.size, 13, none⟩ (nu n)) (w.heap.size + 1) ⟨l2, no2, g2⟩ y2 w.heap.size := hD2.other hK3 (by omega) (by omega) (by omega)
  have HD3 := Hid.mk' hD3
  have HE3 := Hid.mk' heb3
  clear hD3 heb3 hK3 heb hD2 ht2 hk2 HD2 C gc0 gc1 p1
  go_upto_region 15 with fail
  clear af a0
  generalize (x2).setCell ⟨x1.heap.size, 13, none⟩ (nu n) = x3 at *
  have ht3 := HD3.out.tk
  obtain ⟨p0, p1, p2, pf⟩ := ht3.cells
  simp only at p1 p2
  have HB := Hid.mk' ht3.bel
  have HH := Hid.mk' HD3.out.rblk
  obtain ⟨a2, cap2, hy2, hc1, hc2, hrest2⟩ := ht3.row
  clear hrest2
  simp only at hy2 hc1
  subst hy2
  unfold maxLen at hc2
  clear ht3
  by_cases h0 : no2 ≠ 0
  · have h0' : ((no2 : Int) != 0) = true := by simpa using h0
    have hV : Hid (D = (Evt.zero, no2)) := hVA.out h0
    clear h0 cM hc1 hc2 p0 p2
    have hrb := HD3.out.rcells
    have z0 := cell_of (j := 0) hrb rfl
    have s0 : x3.setCell ⟨w.heap.size, 0, none⟩ (nu 0) = x3 := setCell_self hrb rfl
    have d0 : x3.drew.setCell ⟨w.heap.size, 0, none⟩ (nu 0) = x3.drew := setCell_self (w := x3.drew) hrb rfl
    have z1 := cell_of (j := 1) hrb rfl
    have s1 : x3.setCell ⟨w.heap.size, 1, none⟩ (nu 0) = x3 := setCell_self hrb rfl
    have d1 : x3.drew.setCell ⟨w.heap.size, 1, none⟩ (nu 0) = x3.drew := setCell_self (w := x3.drew) hrb rfl
    have z2 := cell_of (j := 2) hrb rfl
    have s2 : x3.setCell ⟨w.heap.size, 2, none⟩ (nu 0) = x3 := setCell_self hrb rfl
    have d2 : x3.drew.setCell ⟨w.heap.size, 2, none⟩ (nu 0) = x3.drew := setCell_self (w := x3.drew) hrb rfl
    have z3 := cell_of (j := 3) hrb rfl
    have s3 : x3.setCell ⟨w.heap.size, 3, none⟩ (nu 0) = x3 := setCell_self hrb rfl
    have d3 : x3.drew.setCell ⟨w.heap.size, 3, none⟩ (nu 0) = x3.drew := setCell_self (w := x3.drew) hrb rfl
    have z4 := cell_of (j := 4) hrb rfl
    have s4 : x3.setCell ⟨w.heap.size, 4, none⟩ (nu 0) = x3 := setCell_self hrb rfl
    have d4 : x3.drew.setCell ⟨w.heap.size, 4, none⟩ (nu 0) = x3.drew := setCell_self (w := x3.drew) hrb rfl
    have z5 := cell_of (j := 5) hrb rfl
    have s5 : x3.setCell ⟨w.heap.size, 5, none⟩ (nu 0) = x3 := setCell_self hrb rfl
    have d5 : x3.drew.setCell ⟨w.heap.size, 5, none⟩ (nu 0) = x3.drew := setCell_self (w := x3.drew) hrb rfl
    have z6 := cell_of (j := 6) hrb rfl
    have s6 : x3.setCell ⟨w.heap.size, 6, none⟩ (.string ⟨#[]⟩) = x3 := setCell_self hrb rfl
    have d6 : x3.drew.setCell ⟨w.heap.size, 6, none⟩ (.string ⟨#[]⟩) = x3.drew := setCell_self (w := x3.drew) hrb rfl
    have z7 := cell_of (j := 7) hrb rfl
    have s7 : x3.setCell ⟨w.heap.size, 7, none⟩ (.string ⟨#[]⟩) = x3 := setCell_self hrb rfl
    have d7 : x3.drew.setCell ⟨w.heap.size, 7, none⟩ (.string ⟨#[]⟩) = x3.drew := setCell_self (w := x3.drew) hrb rfl
    have z8 := cell_of (j := 8) hrb rfl
    have s8 : x3.setCell ⟨w.heap.size, 8, none⟩ (.int .u64 0) = x3 := setCell_self hrb rfl
    have d8 : x3.drew.setCell ⟨w.heap.size, 8, none⟩ (.int .u64 0) = x3.drew := setCell_self (w := x3.drew) hrb rfl
    have z9 := cell_of (j := 9) hrb rfl
    have s9 : x3.setCell ⟨w.heap.size, 9, none⟩ (nu 0) = x3 := setCell_self hrb rfl
    have d9 : x3.drew.setCell ⟨w.heap.size, 9, none⟩ (nu 0) = x3.drew := setCell_self (w := x3.drew) hrb rfl
    have z10 := cell_of (j := 10) hrb rfl
    have s10 : x3.setCell ⟨w.heap.size, 10, none⟩ (nu 0) = x3 := setCell_self hrb rfl
    have d10 : x3.drew.setCell ⟨w.heap.size, 10, none⟩ (nu 0) = x3.drew := setCell_self (w := x3.drew) hrb rfl
    have z11 := cell_of (j := 11) hrb rfl
    have s11 : x3.setCell ⟨w.heap.size, 11, none⟩ (nu 0) = x3 := setCell_self hrb rfl
    have d11 : x3.drew.setCell ⟨w.heap.size, 11, none⟩ (nu 0) = x3.drew := setCell_self (w := x3.drew) hrb rfl
    have z12 := cell_of (j := 12) hrb rfl
    have s12 : x3.setCell ⟨w.heap.size, 12, none⟩ (nu 0) = x3 := setCell_self hrb rfl
    have d12 : x3.drew.setCell ⟨w.heap.size, 12, none⟩ (nu 0) = x3.drew := setCell_self (w := x3.drew) hrb rfl
    have z13 := cell_of (j := 13) hrb rfl
    have s13 : x3.setCell ⟨w.heap.size, 13, none⟩ (nu 0) = x3 := setCell_self hrb rfl
    have d13 : x3.drew.setCell ⟨w.heap.size, 13, none⟩ (nu 0) = x3.drew := setCell_self (w := x3.drew) hrb rfl
    have z14 := cell_of (j := 14) hrb rfl
    have s14 : x3.setCell ⟨w.heap.size, 14, none⟩ (nu 0) = x3 := setCell_self hrb rfl
    have d14 : x3.drew.setCell ⟨w.heap.size, 14, none⟩ (nu 0) = x3.drew := setCell_self (w := x3.drew) hrb rfl
    have zf : ∀ i, _ := frz_of hrb
    clear hrb
    go_wp2_with fail
    go_region
    go_wp2
    refine bodyPost_ret (results_evt rfl _ _ w.heap.size Evt.zero rfl HH.out) rfl ?_
    exact ⟨by rw [hV.out]; rfl, HB.out.drew⟩
  obtain rfl : no2 = 0 := by omega
  simp only [Int.natCast_zero, Int.cast_ofNat_Int] at p1
  by_cases h1 : l2 = []
  case neg =>
    have h1' : (0 : Int) < (l2.length : Int) := by have := List.length_pos_iff.2 h1; omega
    have hV : Hid (D = (Evt.zero, 3)) := hVB.out rfl h1
    clear h0 h1 cM
    have hrb := HD3.out.rcells
    have z0 := cell_of (j := 0) hrb rfl
    have s0 : x3.setCell ⟨w.heap.size, 0, none⟩ (nu 0) = x3 := setCell_self hrb rfl
    have z1 := cell_of (j := 1) hrb rfl
    have s1 : x3.setCell ⟨w.heap.size, 1, none⟩ (nu 0) = x3 := setCell_self hrb rfl
    have z2 := cell_of (j := 2) hrb rfl
    have s2 : x3.setCell ⟨w.heap.size, 2, none⟩ (nu 0) = x3 := setCell_self hrb rfl
    have z3 := cell_of (j := 3) hrb rfl
    have s3 : x3.setCell ⟨w.heap.size, 3, none⟩ (nu 0) = x3 := setCell_self hrb rfl
    have z4 := cell_of (j := 4) hrb rfl
    have s4 : x3.setCell ⟨w.heap.size, 4, none⟩ (nu 0) = x3 := setCell_self hrb rfl
    have z5 := cell_of (j := 5) hrb rfl
    have s5 : x3.setCell ⟨w.heap.size, 5, none⟩ (nu 0) = x3 := setCell_self hrb rfl
    have z6 := cell_of (j := 6) hrb rfl
    have s6 : x3.setCell ⟨w.heap.size, 6, none⟩ (.string ⟨#[]⟩) = x3 := setCell_self hrb rfl
    have z7 := cell_of (j := 7) hrb rfl
    have s7 : x3.setCell ⟨w.heap.size, 7, none⟩ (.string ⟨#[]⟩) = x3 := setCell_self hrb rfl
    have z8 := cell_of (j := 8) hrb rfl
    have s8 : x3.setCell ⟨w.heap.size, 8, none⟩ (.int .u64 0) = x3 := setCell_self hrb rfl
    have z9 := cell_of (j := 9) hrb rfl
    have s9 : x3.setCell ⟨w.heap.size, 9, none⟩ (nu 0) = x3 := setCell_self hrb rfl
    have z10 := cell_of (j := 10) hrb rfl
    have s10 : x3.setCell ⟨w.heap.size, 10, none⟩ (nu 0) = x3 := setCell_self hrb rfl
    have z11 := cell_of (j := 11) hrb rfl
    have s11 : x3.setCell ⟨w.heap.size, 11, none⟩ (nu 0) = x3 := setCell_self hrb rfl
    have z12 := cell_of (j := 12) hrb rfl
    have s12 : x3.setCell ⟨w.heap.size, 12, none⟩ (nu 0) = x3 := setCell_self hrb rfl
    have z13 := cell_of (j := 13) hrb rfl
    have s13 : x3.setCell ⟨w.heap.size, 13, none⟩ (nu 0) = x3 := setCell_self hrb rfl
    have z14 := cell_of (j := 14) hrb rfl
    have s14 : x3.setCell ⟨w.heap.size, 14, none⟩ (nu 0) = x3 := setCell_self hrb rfl
    have zf : ∀ i, _ := frz_of hrb
    clear hrb
    go_wp2
    refine bodyPost_ret (results_evt rfl _ _ w.heap.size Evt.zero rfl HH.out) rfl ?_
    exact ⟨by rw [hV.out]; rfl, HB.out⟩
  subst h1
  simp only [List.length_nil] at p0
  cases g2 with
  | true =>
    have hV : Hid (D = (Evt.zero, 1)) := hVC.out rfl rfl rfl
    clear h0 cM
    have hrb := HD3.out.rcells
    have z0 := cell_of (j := 0) hrb rfl
    have s0 : x3.setCell ⟨w.heap.size, 0, none⟩ (nu 0) = x3 := setCell_self hrb rfl
    have z1 := cell_of (j := 1) hrb rfl
    have s1 : x3.setCell ⟨w.heap.size, 1, none⟩ (nu 0) = x3 := setCell_self hrb rfl
    have z2 := cell_of (j := 2) hrb rfl
    have s2 : x3.setCell ⟨w.heap.size, 2, none⟩ (nu 0) = x3 := setCell_self hrb rfl
    have z3 := cell_of (j := 3) hrb rfl
    have s3 : x3.setCell ⟨w.heap.size, 3, none⟩ (nu 0) = x3 := setCell_self hrb rfl
    have z4 := cell_of (j := 4) hrb rfl
    have s4 : x3.setCell ⟨w.heap.size, 4, none⟩ (nu 0) = x3 := setCell_self hrb rfl
    have z5 := cell_of (j := 5) hrb rfl
    have s5 : x3.setCell ⟨w.heap.size, 5, none⟩ (nu 0) = x3 := setCell_self hrb rfl
    have z6 := cell_of (j := 6) hrb rfl
    have s6 : x3.setCell ⟨w.heap.size, 6, none⟩ (.string ⟨#[]⟩) = x3 := setCell_self hrb rfl
    have z7 := cell_of (j := 7) hrb rfl
    have s7 : x3.setCell ⟨w.heap.size, 7, none⟩ (.string ⟨#[]⟩) = x3 := setCell_self hrb rfl
    have z8 := cell_of (j := 8) hrb rfl
    have s8 : x3.setCell ⟨w.heap.size, 8, none⟩ (.int .u64 0) = x3 := setCell_self hrb rfl
    have z9 := cell_of (j := 9) hrb rfl
    have s9 : x3.setCell ⟨w.heap.size, 9, none⟩ (nu 0) = x3 := setCell_self hrb rfl
    have z10 := cell_of (j := 10) hrb rfl
    have s10 : x3.setCell ⟨w.heap.size, 10, none⟩ (nu 0) = x3 := setCell_self hrb rfl
    have z11 := cell_of (j := 11) hrb rfl
    have s11 : x3.setCell ⟨w.heap.size, 11, none⟩ (nu 0) = x3 := setCell_self hrb rfl
    have z12 := cell_of (j := 12) hrb rfl
    have s12 : x3.setCell ⟨w.heap.size, 12, none⟩ (nu 0) = x3 := setCell_self hrb rfl
    have z13 := cell_of (j := 13) hrb rfl
    have s13 : x3.setCell ⟨w.heap.size, 13, none⟩ (nu 0) = x3 := setCell_self hrb rfl
    have z14 := cell_of (j := 14) hrb rfl
    have s14 : x3.setCell ⟨w.heap.size, 14, none⟩ (nu 0) = x3 := setCell_self hrb rfl
    have zf : ∀ i, _ := frz_of hrb
    clear hrb
    go_wp2
    refine bodyPost_ret (results_evt rfl _ _ w.heap.size Evt.zero rfl HH.out) rfl ?_
    exact ⟨by rw [hV.out]; rfl, HB.out⟩
  | false =>
    have e0 := cell_of (j := 0) HE3.out rfl
    have e1 := cell_of (j := 1) HE3.out rfl
    have e2 := cell_of (j := 2) HE3.out rfl
    have e3 := cell_of (j := 3) HE3.out rfl
    have e4 := cell_of (j := 4) HE3.out rfl
    have e5 := cell_of (j := 5) HE3.out rfl
    have e6 := cell_of (j := 6) HE3.out rfl
    have e7 := cell_of (j := 7) HE3.out rfl
    have e8 := cell_of (j := 8) HE3.out rfl
    have e9 := cell_of (j := 9) HE3.out rfl
    have e10 := cell_of (j := 10) HE3.out rfl
    have e11 := cell_of (j := 11) HE3.out rfl
    have e12 := cell_of (j := 12) HE3.out rfl
    have e13 := cell_of (j := 13) HE3.out rfl
    have e14 := cell_of (j := 14) HE3.out rfl
    clear h0
    cases mv with
    | false =>
      have hV : Hid (D = (Evt.zero, 1)) := hVD.out rfl rfl rfl
      go_wp2_with fail
      refine (cM.out _).mono ?_
      rintro e x4 ⟨rfl, hb4⟩
      have hr4 : x4.heap[w.heap.size]? = some (.cells #[nu 0, nu 0, nu 0, nu 0, nu 0, nu 0, .string ⟨#[]⟩, .string ⟨#[]⟩, .int .u64 0, nu 0, nu 0, nu 0, nu 0, nu 0, nu 0] 29) := (hb4.block _ (Array.getElem?_eq_some_iff.1 HD3.out.rblk).1).trans HD3.out.rcells
      have HB4 := Hid.mk' (HB.out.trans (hb4.mono HB.out.size))
      have HH4 : Hid (x4.heap[w.heap.size]? = some (.cells Evt.zero.arr 29 (0, 0))) := hr4
      have hrb := hr4
      have z0 := cell_of (j := 0) hrb rfl
      have s0 : x4.setCell ⟨w.heap.size, 0, none⟩ (nu 0) = x4 := setCell_self hrb rfl
      have z1 := cell_of (j := 1) hrb rfl
      have s1 : x4.setCell ⟨w.heap.size, 1, none⟩ (nu 0) = x4 := setCell_self hrb rfl
      have z2 := cell_of (j := 2) hrb rfl
      have s2 : x4.setCell ⟨w.heap.size, 2, none⟩ (nu 0) = x4 := setCell_self hrb rfl
      have z3 := cell_of (j := 3) hrb rfl
      have s3 : x4.setCell ⟨w.heap.size, 3, none⟩ (nu 0) = x4 := setCell_self hrb rfl
      have z4 := cell_of (j := 4) hrb rfl
      have s4 : x4.setCell ⟨w.heap.size, 4, none⟩ (nu 0) = x4 := setCell_self hrb rfl
      have z5 := cell_of (j := 5) hrb rfl
      have s5 : x4.setCell ⟨w.heap.size, 5, none⟩ (nu 0) = x4 := setCell_self hrb rfl
      have z6 := cell_of (j := 6) hrb rfl
      have s6 : x4.setCell ⟨w.heap.size, 6, none⟩ (.string ⟨#[]⟩) = x4 := setCell_self hrb rfl
      have z7 := cell_of (j := 7) hrb rfl
      have s7 : x4.setCell ⟨w.heap.size, 7, none⟩ (.string ⟨#[]⟩) = x4 := setCell_self hrb rfl
      have z8 := cell_of (j := 8) hrb rfl
      have s8 : x4.setCell ⟨w.heap.size, 8, none⟩ (.int .u64 0) = x4 := setCell_self hrb rfl
      have z9 := cell_of (j := 9) hrb rfl
      have s9 : x4.setCell ⟨w.heap.size, 9, none⟩ (nu 0) = x4 := setCell_self hrb rfl
      have z10 := cell_of (j := 10) hrb rfl
      have s10 : x4.setCell ⟨w.heap.size, 10, none⟩ (nu 0) = x4 := setCell_self hrb rfl
      have z11 := cell_of (j := 11) hrb rfl
      have s11 : x4.setCell ⟨w.heap.size, 11, none⟩ (nu 0) = x4 := setCell_self hrb rfl
      have z12 := cell_of (j := 12) hrb rfl
      have s12 : x4.setCell ⟨w.heap.size, 12, none⟩ (nu 0) = x4 := setCell_self hrb rfl
      have z13 := cell_of (j := 13) hrb rfl
      have s13 : x4.setCell ⟨w.heap.size, 13, none⟩ (nu 0) = x4 := setCell_self hrb rfl
      have z14 := cell_of (j := 14) hrb rfl
      have s14 : x4.setCell ⟨w.heap.size, 14, none⟩ (nu 0) = x4 := setCell_self hrb rfl
      have zf : ∀ i, _ := frz_of hrb
      clear hrb
      clear hb4 hr4 cM
      go_wp2
      refine bodyPost_ret (results_evt rfl _ _ w.heap.size Evt.zero rfl HH4.out) rfl ?_
      exact ⟨by rw [hV.out]; rfl, HB4.out⟩
    | true =>
      have hV : Hid (D = (⟨1, Sn.zero, n, 0⟩, 0)) := hVE.out rfl rfl rfl rfl
      go_wp2_with fail
      refine (cM.out _).mono ?_
      rintro e x4 ⟨rfl, hb4⟩
      have hr4 : x4.heap[w.heap.size]? = some (.cells #[nu 0, nu 0, nu 0, nu 0, nu 0, nu 0, .string ⟨#[]⟩, .string ⟨#[]⟩, .int .u64 0, nu 0, nu 0, nu 0, nu 0, nu 0, nu 0] 29) := (hb4.block _ (Array.getElem?_eq_some_iff.1 HD3.out.rblk).1).trans HD3.out.rcells
      have HB4 := Hid.mk' (HB.out.trans (hb4.mono HB.out.size))
      have HH4 : Hid (x4.heap[w.heap.size]? = some (.cells Evt.zero.arr 29 (0, 0))) := hr4
      have z0 := cell_of (j := 0) hr4 rfl
      have z1 := cell_of (j := 1) hr4 rfl
      have z2 := cell_of (j := 2) hr4 rfl
      have z3 := cell_of (j := 3) hr4 rfl
      have z4 := cell_of (j := 4) hr4 rfl
      have z5 := cell_of (j := 5) hr4 rfl
      have z6 := cell_of (j := 6) hr4 rfl
      have z7 := cell_of (j := 7) hr4 rfl
      have z8 := cell_of (j := 8) hr4 rfl
      have z9 := cell_of (j := 9) hr4 rfl
      have z10 := cell_of (j := 10) hr4 rfl
      have z11 := cell_of (j := 11) hr4 rfl
      have z12 := cell_of (j := 12) hr4 rfl
      have z13 := cell_of (j := 13) hr4 rfl
      have z14 := cell_of (j := 14) hr4 rfl
      have zf : ∀ i, _ := frz_of hr4
      have k0 : x4.cell? ⟨x1.heap.size, 0, none⟩ = some (nu 1) := cell_of (j := 0) ((hb4.block _ (Array.getElem?_eq_some_iff.1 HE3.out).1).trans HE3.out) rfl
      have k1 : x4.cell? ⟨x1.heap.size, 1, none⟩ = some (nu 0) := cell_of (j := 1) ((hb4.block _ (Array.getElem?_eq_some_iff.1 HE3.out).1).trans HE3.out) rfl
      have k2 : x4.cell? ⟨x1.heap.size, 2, none⟩ = some (nu 0) := cell_of (j := 2) ((hb4.block _ (Array.getElem?_eq_some_iff.1 HE3.out).1).trans HE3.out) rfl
      have k3 : x4.cell? ⟨x1.heap.size, 3, none⟩ = some (nu 0) := cell_of (j := 3) ((hb4.block _ (Array.getElem?_eq_some_iff.1 HE3.out).1).trans HE3.out) rfl
      have k4 : x4.cell? ⟨x1.heap.size, 4, none⟩ = some (nu 0) := cell_of (j := 4) ((hb4.block _ (Array.getElem?_eq_some_iff.1 HE3.out).1).trans HE3.out) rfl
      have k5 : x4.cell? ⟨x1.heap.size, 5, none⟩ = some (nu 0) := cell_of (j := 5) ((hb4.block _ (Array.getElem?_eq_some_iff.1 HE3.out).1).trans HE3.out) rfl
      have k6 : x4.cell? ⟨x1.heap.size, 6, none⟩ = some (.string ⟨#[]⟩) := cell_of (j := 6) ((hb4.block _ (Array.getElem?_eq_some_iff.1 HE3.out).1).trans HE3.out) rfl
      have k7 : x4.cell? ⟨x1.heap.size, 7, none⟩ = some (.string ⟨#[]⟩) := cell_of (j := 7) ((hb4.block _ (Array.getElem?_eq_some_iff.1 HE3.out).1).trans HE3.out) rfl
      have k8 : x4.cell? ⟨x1.heap.size, 8, none⟩ = some (.int .u64 0) := cell_of (j := 8) ((hb4.block _ (Array.getElem?_eq_some_iff.1 HE3.out).1).trans HE3.out) rfl
      have k9 : x4.cell? ⟨x1.heap.size, 9, none⟩ = some (nu 0) := cell_of (j := 9) ((hb4.block _ (Array.getElem?_eq_some_iff.1 HE3.out).1).trans HE3.out) rfl
      have k10 : x4.cell? ⟨x1.heap.size, 10, none⟩ = some (nu 0) := cell_of (j := 10) ((hb4.block _ (Array.getElem?_eq_some_iff.1 HE3.out).1).trans HE3.out) rfl
      have k11 : x4.cell? ⟨x1.heap.size, 11, none⟩ = some (nu 0) := cell_of (j := 11) ((hb4.block _ (Array.getElem?_eq_some_iff.1 HE3.out).1).trans HE3.out) rfl
      have k12 : x4.cell? ⟨x1.heap.size, 12, none⟩ = some (nu 0) := cell_of (j := 12) ((hb4.block _ (Array.getElem?_eq_some_iff.1 HE3.out).1).trans HE3.out) rfl
      have k13 : x4.cell? ⟨x1.heap.size, 13, none⟩ = some (nu n) := cell_of (j := 13) ((hb4.block _ (Array.getElem?_eq_some_iff.1 HE3.out).1).trans HE3.out) rfl
      have k14 : x4.cell? ⟨x1.heap.size, 14, none⟩ = some (nu 0) := cell_of (j := 14) ((hb4.block _ (Array.getElem?_eq_some_iff.1 HE3.out).1).trans HE3.out) rfl
      clear hb4 hr4 cM e0 e1 e2 e3 e4 e5 e6 e7 e8 e9 e10 e11 e12 e13 e14 p0 p1 p2 pf
      go_wp2
      skip
      refine bodyPost_ret (results_evt rfl _ _ w.heap.size ⟨1, Sn.zero, n, 0⟩ rfl (putE_heap (z := Evt.zero) ⟨1, Sn.zero, n, 0⟩ HH4.out)) rfl ?_
      exact ⟨by rw [hV.out]; rfl, putE_below ⟨1, Sn.zero, n, 0⟩ HB4.out (Nat.le_refl _)⟩

end Ev
end Go.Proofs.YtnllplholfhbdaaDoor
/- The document's answer what bytes tell, of each kind. -/
namespace Go.Proofs.YtnllplholfhbdaaDoor
set_option linter.ambiguousOpen false
open Go.RowKit
namespace Ev
open Pk Sm Ft
set_option linter.unusedSimpArgs false
set_option linter.unusedVariables false

set_option maxRecDepth 100000 in
set_option maxHeartbeats 8000000 in
theorem decode_k0 (w : World) (v : Value) (b : List UInt8) (hR : RdB w v b) (l1 : List UInt8) (g1 : Bool) (hk : numT ⟨b, 0, false⟩ = (0, ⟨l1, 0, g1⟩)) (slot birth us ub kind : Int) (user label : List UInt8) (scopes level born deadline depth : Int) (l2 : List UInt8) (no2 : Nat) (g2 : Bool) (hs : bornT ⟨l1, 0, g1⟩ = (⟨slot, birth, us, ub, kind, user, label, scopes, level, born, deadline, depth⟩, ⟨l2, no2, g2⟩)) (hft : user.length ≤ 65536 ∧ label.length ≤ 65536 ∧ (0 ≤ scopes ∧ scopes < 18446744073709551616)) :
    Calls Tryd.prog 12 #[v] w fun e w' => e = .returned (.tuple #[.agg (decE b).1.arr, nu ((decE b).2 : Int)]) ∧ Below w.heap.size w w' := by
  have hV0 : Hid (decE b = endT (⟨0, ⟨slot, birth, us, ub, kind, user, label, scopes, level, born, deadline, depth⟩, 0, 0⟩, ⟨l2, no2, g2⟩)) := by
    show _ = _
    rw [dec_go _ _ _ _ hk (by decide), rest0, hs]
  have hfit : Evt.fit ⟨0, ⟨slot, birth, us, ub, kind, user, label, scopes, level, born, deadline, depth⟩, 0, 0⟩ := hft
  have cM : Hid (∀ wx, Calls Tryd.prog 22 #[.agg (Evt.arr ⟨0, ⟨slot, birth, us, ub, kind, user, label, scopes, level, born, deadline, depth⟩, 0, 0⟩)] wx fun x w' => x = .returned (.bool (mayE ⟨0, ⟨slot, birth, us, ub, kind, user, label, scopes, level, born, deadline, depth⟩, 0, 0⟩)) ∧ Below wx.heap.size wx w') := fun wx => may_ref _ wx hfit
  have HS := Hid.mk' hs
  clear hs
  have HK := Hid.mk' hk
  have hD0 : Dn w ((w.alloc (.cells Evt.zero.arr 29)).alloc (.cells #[v, nu 0, .bool false] 74)) (w.heap.size + 1) ⟨b, 0, false⟩ v w.heap.size := by
    have s1 : (w.alloc (.cells Evt.zero.arr 29)).heap.size = w.heap.size + 1 := by simp
    have a := heap_alloc_new w (.cells Evt.zero.arr 29)
    have b' := heap_alloc_new (w.alloc (.cells Evt.zero.arr 29)) (.cells #[v, nu 0, .bool false] 74)
    rw [s1] at b'
    exact ⟨⟨b', hR, ((Below.refl _ w).alloc (Nat.le_refl _) _).alloc (by simp) _, by omega⟩, by rw [Below.heap_alloc _ _ _ (by omega)]; exact a, by omega, Nat.le_refl _⟩
  have cK := Hid.mk' (tnumber _ _ _ _ _ hD0.tk)
  rw [hk] at cK
  have HD0 := Hid.mk' hD0
  obtain ⟨a, cap, rfl, hrest0⟩ := hR
  clear hrest0
  have HZ : Hid (Evt.zero.arr = #[nu 0, nu 0, nu 0, nu 0, nu 0, nu 0, .string ⟨#[]⟩, .string ⟨#[]⟩, .int .u64 0, nu 0, nu 0, nu 0, nu 0, nu 0, nu 0]) := rfl
  rw [HZ.out] at cK HD0
  clear hD0 hk
  obtain ⟨fuser, hfu⟩ : ∃ f, tx user = f := ⟨_, rfl⟩
  obtain ⟨flabel, hfl⟩ : ∃ f, tx label = f := ⟨_, rfl⟩
  have hEA : Evt.arr ⟨0, ⟨slot, birth, us, ub, kind, user, label, scopes, level, born, deadline, depth⟩, 0, 0⟩ = #[nu 0, nu slot, nu birth, nu us, nu ub, nu kind, .string fuser, .string flabel, .int .u64 scopes, nu level, nu born, nu deadline, nu depth, nu 0, nu 0] := by
    rw [← hfu, ← hfl]
    rfl
  simp only [hEA] at cM
  have HFU := Hid.mk' hfu
  have HFL := Hid.mk' hfl
  obtain ⟨mv, hmv⟩ : ∃ m, mayE ⟨0, ⟨slot, birth, us, ub, kind, user, label, scopes, level, born, deadline, depth⟩, 0, 0⟩ = m := ⟨_, rfl⟩
  rw [hmv] at cM
  have HMV := Hid.mk' hmv
  clear hmv hfit hEA hft
  obtain ⟨D, hD⟩ : ∃ D, decE b = D := ⟨_, rfl⟩
  rw [hD] at hV0 ⊢
  have hVA : Hid (no2 ≠ 0 → D = (Evt.zero, no2)) := fun h => hV0.out.trans (end_no _ _ h)
  have hVB : Hid (no2 = 0 → l2 ≠ [] → D = (Evt.zero, 3)) := fun h0 h => by
    subst h0
    exact hV0.out.trans (end_left _ _ _ h)
  have hVC : Hid (no2 = 0 → l2 = [] → g2 = true → D = (Evt.zero, 1)) := fun h0 h1 h => by
    subst h0 h1
    exact hV0.out.trans (end_bad _ _ (.inl h))
  have hVD : Hid (no2 = 0 → l2 = [] → mv = false → D = (Evt.zero, 1)) := fun h0 h1 h => by
    subst h0 h1
    exact hV0.out.trans (end_bad _ _ (.inr (HMV.out.trans h)))
  have hVE : Hid (no2 = 0 → l2 = [] → g2 = false → mv = true → D = (⟨0, ⟨slot, birth, us, ub, kind, user, label, scopes, level, born, deadline, depth⟩, 0, 0⟩, 0)) := fun h0 h1 h2 h => by
    subst h0 h1 h2
    exact hV0.out.trans (end_ok _ (HMV.out.trans h))
  clear hV0 hD HMV HK
  go_enter Tryd.func12, Tryd.ntmps12
  go_wp2_with fail
  refine cK.out.mono ?_
  rintro e x1 ⟨rfl, y1, ht1, hk1⟩
  have hD1 := HD0.out.call ht1 hk1
  have hDa := hD1.alloc (.cells #[nu 0, nu 0, nu 0, nu 0, nu 0, nu 0, .string ⟨#[]⟩, .string ⟨#[]⟩, .int .u64 0, nu 0, nu 0, nu 0, nu 0, nu 0, nu 0] 29)
  have p1 : x1.cell? ⟨w.heap.size + 1, 1, none⟩ = some (nu 0) := ht1.cells.2.1
  have HD2 := Hid.mk' hDa
  have hx1 := ht1.lt
  have C := Hid.mk' (tborn _ _ _ _ _ hDa.tk)
  rw [HS.out] at C
  have hsa : Sn.arr ⟨slot, birth, us, ub, kind, user, label, scopes, level, born, deadline, depth⟩ = #[nu slot, nu birth, nu us, nu ub, nu kind, .string fuser, .string flabel, .int .u64 scopes, nu level, nu born, nu deadline, nu depth] := by rw [← hfu, ← hfl]; rfl
  simp only [hsa] at C
  clear hsa hfu hfl
  clear ht1 hk1 hD1 hDa HD0 cK HS
  go_wp2_with fail
  refine C.out.mono ?_
  rintro e x2 ⟨rfl, y2, ht2, hk2⟩
  have hD2 := HD2.out.call ht2 hk2
  have hp2 := hD2.n1
  have heb : x2.heap[x1.heap.size]? = some (.cells #[nu 0, nu 0, nu 0, nu 0, nu 0, nu 0, .string ⟨#[]⟩, .string ⟨#[]⟩, .int .u64 0, nu 0, nu 0, nu 0, nu 0, nu 0, nu 0] 29) := hk2.at (heap_alloc_new x1 _) (by omega)
  have a0 := cell_of (j := 1) heb rfl
  have a1 := cell_of (j := 2) heb rfl
  have a2 := cell_of (j := 3) heb rfl
  have a3 := cell_of (j := 4) heb rfl
  have a4 := cell_of (j := 5) heb rfl
  have a5 := cell_of (j := 6) heb rfl
  have a6 := cell_of (j := 7) heb rfl
  have a7 := cell_of (j := 8) heb rfl
  have a8 := cell_of (j := 9) heb rfl
  have a9 := cell_of (j := 10) heb rfl
  have a10 := cell_of (j := 11) heb rfl
  have a11 := cell_of (j := 12) heb rfl
  have af : ∀ i, _ := frz_of heb
  have hK3 : Keep (fun k => k = x1.heap.size) x2 (((((((((((((x2).setCell ⟨x1.heap.size, 1, none⟩ (nu slot)).setCell ⟨x1.heap.size, 2, none⟩ (nu birth)).setCell ⟨x1.heap.size, 3, none⟩ (nu us)).setCell ⟨x1.heap.size, 4, none⟩ (nu ub)).setCell ⟨x1.heap.size, 5, none⟩ (nu kind)).setCell ⟨x1.heap.size, 6, none⟩ (.string fuser)).setCell ⟨x1.heap.size, 7, none⟩ (.string flabel)).setCell ⟨x1.heap.size, 8, none⟩ (.int .u64 scopes)).setCell ⟨x1.heap.size, 9, none⟩ (nu level)).setCell ⟨x1.heap.size, 10, none⟩ (nu born)).setCell ⟨x1.heap.size, 11, none⟩ (nu deadline)).setCell ⟨x1.heap.size, 12, none⟩ (nu depth)) := by
    iterate 12 (refine Keep.setCell (F := fun k => k = x1.heap.size) ?_ (.inl rfl) _)
    exact Keep.refl _ _
  have gc0 := heb
  have gc1 := heap_setCell_same _ x1.heap.size 1 _ _ (nu slot) gc0
  have gc2 := heap_setCell_same _ x1.heap.size 2 _ _ (nu birth) gc1
  have gc3 := heap_setCell_same _ x1.heap.size 3 _ _ (nu us) gc2
  have gc4 := heap_setCell_same _ x1.heap.size 4 _ _ (nu ub) gc3
  have gc5 := heap_setCell_same _ x1.heap.size 5 _ _ (nu kind) gc4
  have gc6 := heap_setCell_same _ x1.heap.size 6 _ _ (.string fuser) gc5
  have gc7 := heap_setCell_same _ x1.heap.size 7 _ _ (.string flabel) gc6
  have gc8 := heap_setCell_same _ x1.heap.size 8 _ _ (.int .u64 scopes) gc7
  have gc9 := heap_setCell_same _ x1.heap.size 9 _ _ (nu level) gc8
  have gc10 := heap_setCell_same _ x1.heap.size 10 _ _ (nu born) gc9
  have gc11 := heap_setCell_same _ x1.heap.size 11 _ _ (nu deadline) gc10
  have gc12 := heap_setCell_same _ x1.heap.size 12 _ _ (nu depth) gc11
  have heb3 : (((((((((((((x2).setCell ⟨x1.heap.size, 1, none⟩ (nu slot)).setCell ⟨x1.heap.size, 2, none⟩ (nu birth)).setCell ⟨x1.heap.size, 3, none⟩ (nu us)).setCell ⟨x1.heap.size, 4, none⟩ (nu ub)).setCell ⟨x1.heap.size, 5, none⟩ (nu kind)).setCell ⟨x1.heap.size, 6, none⟩ (.string fuser)).setCell ⟨x1.heap.size, 7, none⟩ (.string flabel)).setCell ⟨x1.heap.size, 8, none⟩ (.int .u64 scopes)).setCell ⟨x1.heap.size, 9, none⟩ (nu level)).setCell ⟨x1.heap.size, 10, none⟩ (nu born)).setCell ⟨x1.heap.size, 11, none⟩ (nu deadline)).setCell ⟨x1.heap.size, 12, none⟩ (nu depth)).heap[x1.heap.size]? = some (.cells #[nu 0, nu slot, nu birth, nu us, nu ub, nu kind, .string fuser, .string flabel, .int .u64 scopes, nu level, nu born, nu deadline, nu depth, nu 0, nu 0] 29) := by
    refine gc12.trans (congrArg (fun c => some (Obj.cells c 29 (0, 0))) ?_)
    simp only [List.setIfInBounds_toArray, List.set]
  have hD3 : Dn w (((((((((((((x2).setCell ⟨x1.heap.size, 1, none⟩ (nu slot)).setCell ⟨x1.heap.size, 2, none⟩ (nu birth)).setCell ⟨x1.heap.size, 3, none⟩ (nu us)).setCell ⟨x1.heap.size, 4, none⟩ (nu ub)).setCell ⟨x1.heap.size, 5, none⟩ (nu kind)).setCell ⟨x1.heap.size, 6, none⟩ (.string fuser)).setCell ⟨x1.heap.size, 7, none⟩ (.string flabel)).setCell ⟨x1.heap.size, 8, none⟩ (.int .u64 scopes)).setCell ⟨x1.heap.size, 9, none⟩ (nu level)).setCell ⟨x1.heap.size, 10, none⟩ (nu born)).setCell ⟨x1.heap.size, 11, none⟩ (nu deadline)).setCell ⟨x1.heap.size, 12, none⟩ (nu depth)) (w.heap.size + 1) ⟨l2, no2, g2⟩ y2 w.heap.size := hD2.other hK3 (by omega) (by omega) (by omega)
  have HD3 := Hid.mk' hD3
  have HE3 := Hid.mk' heb3
  clear hD3 heb3 hK3 heb hD2 ht2 hk2 HD2 C gc0 gc1 gc2 gc3 gc4 gc5 gc6 gc7 gc8 gc9 gc10 gc11 gc12 p1
  go_upto_region 15 with fail
  clear af a0 a1 a2 a3 a4 a5 a6 a7 a8 a9 a10 a11
  generalize ((((((((((((x2).setCell ⟨x1.heap.size, 1, none⟩ (nu slot)).setCell ⟨x1.heap.size, 2, none⟩ (nu birth)).setCell ⟨x1.heap.size, 3, none⟩ (nu us)).setCell ⟨x1.heap.size, 4, none⟩ (nu ub)).setCell ⟨x1.heap.size, 5, none⟩ (nu kind)).setCell ⟨x1.heap.size, 6, none⟩ (.string fuser)).setCell ⟨x1.heap.size, 7, none⟩ (.string flabel)).setCell ⟨x1.heap.size, 8, none⟩ (.int .u64 scopes)).setCell ⟨x1.heap.size, 9, none⟩ (nu level)).setCell ⟨x1.heap.size, 10, none⟩ (nu born)).setCell ⟨x1.heap.size, 11, none⟩ (nu deadline)).setCell ⟨x1.heap.size, 12, none⟩ (nu depth) = x3 at *
  have ht3 := HD3.out.tk
  obtain ⟨p0, p1, p2, pf⟩ := ht3.cells
  simp only at p1 p2
  have HB := Hid.mk' ht3.bel
  have HH := Hid.mk' HD3.out.rblk
  obtain ⟨a2, cap2, hy2, hc1, hc2, hrest2⟩ := ht3.row
  clear hrest2
  simp only at hy2 hc1
  subst hy2
  unfold maxLen at hc2
  clear ht3
  by_cases h0 : no2 ≠ 0
  · have h0' : ((no2 : Int) != 0) = true := by simpa using h0
    have hV : Hid (D = (Evt.zero, no2)) := hVA.out h0
    clear h0 cM hc1 hc2 p0 p2
    have hrb := HD3.out.rcells
    have z0 := cell_of (j := 0) hrb rfl
    have s0 : x3.setCell ⟨w.heap.size, 0, none⟩ (nu 0) = x3 := setCell_self hrb rfl
    have d0 : x3.drew.setCell ⟨w.heap.size, 0, none⟩ (nu 0) = x3.drew := setCell_self (w := x3.drew) hrb rfl
    have z1 := cell_of (j := 1) hrb rfl
    have s1 : x3.setCell ⟨w.heap.size, 1, none⟩ (nu 0) = x3 := setCell_self hrb rfl
    have d1 : x3.drew.setCell ⟨w.heap.size, 1, none⟩ (nu 0) = x3.drew := setCell_self (w := x3.drew) hrb rfl
    have z2 := cell_of (j := 2) hrb rfl
    have s2 : x3.setCell ⟨w.heap.size, 2, none⟩ (nu 0) = x3 := setCell_self hrb rfl
    have d2 : x3.drew.setCell ⟨w.heap.size, 2, none⟩ (nu 0) = x3.drew := setCell_self (w := x3.drew) hrb rfl
    have z3 := cell_of (j := 3) hrb rfl
    have s3 : x3.setCell ⟨w.heap.size, 3, none⟩ (nu 0) = x3 := setCell_self hrb rfl
    have d3 : x3.drew.setCell ⟨w.heap.size, 3, none⟩ (nu 0) = x3.drew := setCell_self (w := x3.drew) hrb rfl
    have z4 := cell_of (j := 4) hrb rfl
    have s4 : x3.setCell ⟨w.heap.size, 4, none⟩ (nu 0) = x3 := setCell_self hrb rfl
    have d4 : x3.drew.setCell ⟨w.heap.size, 4, none⟩ (nu 0) = x3.drew := setCell_self (w := x3.drew) hrb rfl
    have z5 := cell_of (j := 5) hrb rfl
    have s5 : x3.setCell ⟨w.heap.size, 5, none⟩ (nu 0) = x3 := setCell_self hrb rfl
    have d5 : x3.drew.setCell ⟨w.heap.size, 5, none⟩ (nu 0) = x3.drew := setCell_self (w := x3.drew) hrb rfl
    have z6 := cell_of (j := 6) hrb rfl
    have s6 : x3.setCell ⟨w.heap.size, 6, none⟩ (.string ⟨#[]⟩) = x3 := setCell_self hrb rfl
    have d6 : x3.drew.setCell ⟨w.heap.size, 6, none⟩ (.string ⟨#[]⟩) = x3.drew := setCell_self (w := x3.drew) hrb rfl
    have z7 := cell_of (j := 7) hrb rfl
    have s7 : x3.setCell ⟨w.heap.size, 7, none⟩ (.string ⟨#[]⟩) = x3 := setCell_self hrb rfl
    have d7 : x3.drew.setCell ⟨w.heap.size, 7, none⟩ (.string ⟨#[]⟩) = x3.drew := setCell_self (w := x3.drew) hrb rfl
    have z8 := cell_of (j := 8) hrb rfl
    have s8 : x3.setCell ⟨w.heap.size, 8, none⟩ (.int .u64 0) = x3 := setCell_self hrb rfl
    have d8 : x3.drew.setCell ⟨w.heap.size, 8, none⟩ (.int .u64 0) = x3.drew := setCell_self (w := x3.drew) hrb rfl
    have z9 := cell_of (j := 9) hrb rfl
    have s9 : x3.setCell ⟨w.heap.size, 9, none⟩ (nu 0) = x3 := setCell_self hrb rfl
    have d9 : x3.drew.setCell ⟨w.heap.size, 9, none⟩ (nu 0) = x3.drew := setCell_self (w := x3.drew) hrb rfl
    have z10 := cell_of (j := 10) hrb rfl
    have s10 : x3.setCell ⟨w.heap.size, 10, none⟩ (nu 0) = x3 := setCell_self hrb rfl
    have d10 : x3.drew.setCell ⟨w.heap.size, 10, none⟩ (nu 0) = x3.drew := setCell_self (w := x3.drew) hrb rfl
    have z11 := cell_of (j := 11) hrb rfl
    have s11 : x3.setCell ⟨w.heap.size, 11, none⟩ (nu 0) = x3 := setCell_self hrb rfl
    have d11 : x3.drew.setCell ⟨w.heap.size, 11, none⟩ (nu 0) = x3.drew := setCell_self (w := x3.drew) hrb rfl
    have z12 := cell_of (j := 12) hrb rfl
    have s12 : x3.setCell ⟨w.heap.size, 12, none⟩ (nu 0) = x3 := setCell_self hrb rfl
    have d12 : x3.drew.setCell ⟨w.heap.size, 12, none⟩ (nu 0) = x3.drew := setCell_self (w := x3.drew) hrb rfl
    have z13 := cell_of (j := 13) hrb rfl
    have s13 : x3.setCell ⟨w.heap.size, 13, none⟩ (nu 0) = x3 := setCell_self hrb rfl
    have d13 : x3.drew.setCell ⟨w.heap.size, 13, none⟩ (nu 0) = x3.drew := setCell_self (w := x3.drew) hrb rfl
    have z14 := cell_of (j := 14) hrb rfl
    have s14 : x3.setCell ⟨w.heap.size, 14, none⟩ (nu 0) = x3 := setCell_self hrb rfl
    have d14 : x3.drew.setCell ⟨w.heap.size, 14, none⟩ (nu 0) = x3.drew := setCell_self (w := x3.drew) hrb rfl
    have zf : ∀ i, _ := frz_of hrb
    clear hrb
    go_wp2_with fail
    go_region
    go_wp2
    refine bodyPost_ret (results_evt rfl _ _ w.heap.size Evt.zero rfl HH.out) rfl ?_
    exact ⟨by rw [hV.out]; rfl, HB.out.drew⟩
  obtain rfl : no2 = 0 := by omega
  simp only [Int.natCast_zero, Int.cast_ofNat_Int] at p1
  by_cases h1 : l2 = []
  case neg =>
    have h1' : (0 : Int) < (l2.length : Int) := by have := List.length_pos_iff.2 h1; omega
    have hV : Hid (D = (Evt.zero, 3)) := hVB.out rfl h1
    clear h0 h1 cM
    have hrb := HD3.out.rcells
    have z0 := cell_of (j := 0) hrb rfl
    have s0 : x3.setCell ⟨w.heap.size, 0, none⟩ (nu 0) = x3 := setCell_self hrb rfl
    have z1 := cell_of (j := 1) hrb rfl
    have s1 : x3.setCell ⟨w.heap.size, 1, none⟩ (nu 0) = x3 := setCell_self hrb rfl
    have z2 := cell_of (j := 2) hrb rfl
    have s2 : x3.setCell ⟨w.heap.size, 2, none⟩ (nu 0) = x3 := setCell_self hrb rfl
    have z3 := cell_of (j := 3) hrb rfl
    have s3 : x3.setCell ⟨w.heap.size, 3, none⟩ (nu 0) = x3 := setCell_self hrb rfl
    have z4 := cell_of (j := 4) hrb rfl
    have s4 : x3.setCell ⟨w.heap.size, 4, none⟩ (nu 0) = x3 := setCell_self hrb rfl
    have z5 := cell_of (j := 5) hrb rfl
    have s5 : x3.setCell ⟨w.heap.size, 5, none⟩ (nu 0) = x3 := setCell_self hrb rfl
    have z6 := cell_of (j := 6) hrb rfl
    have s6 : x3.setCell ⟨w.heap.size, 6, none⟩ (.string ⟨#[]⟩) = x3 := setCell_self hrb rfl
    have z7 := cell_of (j := 7) hrb rfl
    have s7 : x3.setCell ⟨w.heap.size, 7, none⟩ (.string ⟨#[]⟩) = x3 := setCell_self hrb rfl
    have z8 := cell_of (j := 8) hrb rfl
    have s8 : x3.setCell ⟨w.heap.size, 8, none⟩ (.int .u64 0) = x3 := setCell_self hrb rfl
    have z9 := cell_of (j := 9) hrb rfl
    have s9 : x3.setCell ⟨w.heap.size, 9, none⟩ (nu 0) = x3 := setCell_self hrb rfl
    have z10 := cell_of (j := 10) hrb rfl
    have s10 : x3.setCell ⟨w.heap.size, 10, none⟩ (nu 0) = x3 := setCell_self hrb rfl
    have z11 := cell_of (j := 11) hrb rfl
    have s11 : x3.setCell ⟨w.heap.size, 11, none⟩ (nu 0) = x3 := setCell_self hrb rfl
    have z12 := cell_of (j := 12) hrb rfl
    have s12 : x3.setCell ⟨w.heap.size, 12, none⟩ (nu 0) = x3 := setCell_self hrb rfl
    have z13 := cell_of (j := 13) hrb rfl
    have s13 : x3.setCell ⟨w.heap.size, 13, none⟩ (nu 0) = x3 := setCell_self hrb rfl
    have z14 := cell_of (j := 14) hrb rfl
    have s14 : x3.setCell ⟨w.heap.size, 14, none⟩ (nu 0) = x3 := setCell_self hrb rfl
    have zf : ∀ i, _ := frz_of hrb
    clear hrb
    go_wp2
    refine bodyPost_ret (results_evt rfl _ _ w.heap.size Evt.zero rfl HH.out) rfl ?_
    exact ⟨by rw [hV.out]; rfl, HB.out⟩
  subst h1
  simp only [List.length_nil] at p0
  cases g2 with
  | true =>
    have hV : Hid (D = (Evt.zero, 1)) := hVC.out rfl rfl rfl
    clear h0 cM
    have hrb := HD3.out.rcells
    have z0 := cell_of (j := 0) hrb rfl
    have s0 : x3.setCell ⟨w.heap.size, 0, none⟩ (nu 0) = x3 := setCell_self hrb rfl
    have z1 := cell_of (j := 1) hrb rfl
    have s1 : x3.setCell ⟨w.heap.size, 1, none⟩ (nu 0) = x3 := setCell_self hrb rfl
    have z2 := cell_of (j := 2) hrb rfl
    have s2 : x3.setCell ⟨w.heap.size, 2, none⟩ (nu 0) = x3 := setCell_self hrb rfl
    have z3 := cell_of (j := 3) hrb rfl
    have s3 : x3.setCell ⟨w.heap.size, 3, none⟩ (nu 0) = x3 := setCell_self hrb rfl
    have z4 := cell_of (j := 4) hrb rfl
    have s4 : x3.setCell ⟨w.heap.size, 4, none⟩ (nu 0) = x3 := setCell_self hrb rfl
    have z5 := cell_of (j := 5) hrb rfl
    have s5 : x3.setCell ⟨w.heap.size, 5, none⟩ (nu 0) = x3 := setCell_self hrb rfl
    have z6 := cell_of (j := 6) hrb rfl
    have s6 : x3.setCell ⟨w.heap.size, 6, none⟩ (.string ⟨#[]⟩) = x3 := setCell_self hrb rfl
    have z7 := cell_of (j := 7) hrb rfl
    have s7 : x3.setCell ⟨w.heap.size, 7, none⟩ (.string ⟨#[]⟩) = x3 := setCell_self hrb rfl
    have z8 := cell_of (j := 8) hrb rfl
    have s8 : x3.setCell ⟨w.heap.size, 8, none⟩ (.int .u64 0) = x3 := setCell_self hrb rfl
    have z9 := cell_of (j := 9) hrb rfl
    have s9 : x3.setCell ⟨w.heap.size, 9, none⟩ (nu 0) = x3 := setCell_self hrb rfl
    have z10 := cell_of (j := 10) hrb rfl
    have s10 : x3.setCell ⟨w.heap.size, 10, none⟩ (nu 0) = x3 := setCell_self hrb rfl
    have z11 := cell_of (j := 11) hrb rfl
    have s11 : x3.setCell ⟨w.heap.size, 11, none⟩ (nu 0) = x3 := setCell_self hrb rfl
    have z12 := cell_of (j := 12) hrb rfl
    have s12 : x3.setCell ⟨w.heap.size, 12, none⟩ (nu 0) = x3 := setCell_self hrb rfl
    have z13 := cell_of (j := 13) hrb rfl
    have s13 : x3.setCell ⟨w.heap.size, 13, none⟩ (nu 0) = x3 := setCell_self hrb rfl
    have z14 := cell_of (j := 14) hrb rfl
    have s14 : x3.setCell ⟨w.heap.size, 14, none⟩ (nu 0) = x3 := setCell_self hrb rfl
    have zf : ∀ i, _ := frz_of hrb
    clear hrb
    go_wp2
    refine bodyPost_ret (results_evt rfl _ _ w.heap.size Evt.zero rfl HH.out) rfl ?_
    exact ⟨by rw [hV.out]; rfl, HB.out⟩
  | false =>
    have e0 := cell_of (j := 0) HE3.out rfl
    have e1 := cell_of (j := 1) HE3.out rfl
    have e2 := cell_of (j := 2) HE3.out rfl
    have e3 := cell_of (j := 3) HE3.out rfl
    have e4 := cell_of (j := 4) HE3.out rfl
    have e5 := cell_of (j := 5) HE3.out rfl
    have e6 := cell_of (j := 6) HE3.out rfl
    have e7 := cell_of (j := 7) HE3.out rfl
    have e8 := cell_of (j := 8) HE3.out rfl
    have e9 := cell_of (j := 9) HE3.out rfl
    have e10 := cell_of (j := 10) HE3.out rfl
    have e11 := cell_of (j := 11) HE3.out rfl
    have e12 := cell_of (j := 12) HE3.out rfl
    have e13 := cell_of (j := 13) HE3.out rfl
    have e14 := cell_of (j := 14) HE3.out rfl
    clear h0
    cases mv with
    | false =>
      have hV : Hid (D = (Evt.zero, 1)) := hVD.out rfl rfl rfl
      go_wp2_with fail
      refine (cM.out _).mono ?_
      rintro e x4 ⟨rfl, hb4⟩
      have hr4 : x4.heap[w.heap.size]? = some (.cells #[nu 0, nu 0, nu 0, nu 0, nu 0, nu 0, .string ⟨#[]⟩, .string ⟨#[]⟩, .int .u64 0, nu 0, nu 0, nu 0, nu 0, nu 0, nu 0] 29) := (hb4.block _ (Array.getElem?_eq_some_iff.1 HD3.out.rblk).1).trans HD3.out.rcells
      have HB4 := Hid.mk' (HB.out.trans (hb4.mono HB.out.size))
      have HH4 : Hid (x4.heap[w.heap.size]? = some (.cells Evt.zero.arr 29 (0, 0))) := hr4
      have hrb := hr4
      have z0 := cell_of (j := 0) hrb rfl
      have s0 : x4.setCell ⟨w.heap.size, 0, none⟩ (nu 0) = x4 := setCell_self hrb rfl
      have z1 := cell_of (j := 1) hrb rfl
      have s1 : x4.setCell ⟨w.heap.size, 1, none⟩ (nu 0) = x4 := setCell_self hrb rfl
      have z2 := cell_of (j := 2) hrb rfl
      have s2 : x4.setCell ⟨w.heap.size, 2, none⟩ (nu 0) = x4 := setCell_self hrb rfl
      have z3 := cell_of (j := 3) hrb rfl
      have s3 : x4.setCell ⟨w.heap.size, 3, none⟩ (nu 0) = x4 := setCell_self hrb rfl
      have z4 := cell_of (j := 4) hrb rfl
      have s4 : x4.setCell ⟨w.heap.size, 4, none⟩ (nu 0) = x4 := setCell_self hrb rfl
      have z5 := cell_of (j := 5) hrb rfl
      have s5 : x4.setCell ⟨w.heap.size, 5, none⟩ (nu 0) = x4 := setCell_self hrb rfl
      have z6 := cell_of (j := 6) hrb rfl
      have s6 : x4.setCell ⟨w.heap.size, 6, none⟩ (.string ⟨#[]⟩) = x4 := setCell_self hrb rfl
      have z7 := cell_of (j := 7) hrb rfl
      have s7 : x4.setCell ⟨w.heap.size, 7, none⟩ (.string ⟨#[]⟩) = x4 := setCell_self hrb rfl
      have z8 := cell_of (j := 8) hrb rfl
      have s8 : x4.setCell ⟨w.heap.size, 8, none⟩ (.int .u64 0) = x4 := setCell_self hrb rfl
      have z9 := cell_of (j := 9) hrb rfl
      have s9 : x4.setCell ⟨w.heap.size, 9, none⟩ (nu 0) = x4 := setCell_self hrb rfl
      have z10 := cell_of (j := 10) hrb rfl
      have s10 : x4.setCell ⟨w.heap.size, 10, none⟩ (nu 0) = x4 := setCell_self hrb rfl
      have z11 := cell_of (j := 11) hrb rfl
      have s11 : x4.setCell ⟨w.heap.size, 11, none⟩ (nu 0) = x4 := setCell_self hrb rfl
      have z12 := cell_of (j := 12) hrb rfl
      have s12 : x4.setCell ⟨w.heap.size, 12, none⟩ (nu 0) = x4 := setCell_self hrb rfl
      have z13 := cell_of (j := 13) hrb rfl
      have s13 : x4.setCell ⟨w.heap.size, 13, none⟩ (nu 0) = x4 := setCell_self hrb rfl
      have z14 := cell_of (j := 14) hrb rfl
      have s14 : x4.setCell ⟨w.heap.size, 14, none⟩ (nu 0) = x4 := setCell_self hrb rfl
      have zf : ∀ i, _ := frz_of hrb
      clear hrb
      clear hb4 hr4 cM
      go_wp2
      refine bodyPost_ret (results_evt rfl _ _ w.heap.size Evt.zero rfl HH4.out) rfl ?_
      exact ⟨by rw [hV.out]; rfl, HB4.out⟩
    | true =>
      have hV : Hid (D = (⟨0, ⟨slot, birth, us, ub, kind, user, label, scopes, level, born, deadline, depth⟩, 0, 0⟩, 0)) := hVE.out rfl rfl rfl rfl
      go_wp2_with fail
      refine (cM.out _).mono ?_
      rintro e x4 ⟨rfl, hb4⟩
      have hr4 : x4.heap[w.heap.size]? = some (.cells #[nu 0, nu 0, nu 0, nu 0, nu 0, nu 0, .string ⟨#[]⟩, .string ⟨#[]⟩, .int .u64 0, nu 0, nu 0, nu 0, nu 0, nu 0, nu 0] 29) := (hb4.block _ (Array.getElem?_eq_some_iff.1 HD3.out.rblk).1).trans HD3.out.rcells
      have HB4 := Hid.mk' (HB.out.trans (hb4.mono HB.out.size))
      have HH4 : Hid (x4.heap[w.heap.size]? = some (.cells Evt.zero.arr 29 (0, 0))) := hr4
      have z0 := cell_of (j := 0) hr4 rfl
      have z1 := cell_of (j := 1) hr4 rfl
      have z2 := cell_of (j := 2) hr4 rfl
      have z3 := cell_of (j := 3) hr4 rfl
      have z4 := cell_of (j := 4) hr4 rfl
      have z5 := cell_of (j := 5) hr4 rfl
      have z6 := cell_of (j := 6) hr4 rfl
      have z7 := cell_of (j := 7) hr4 rfl
      have z8 := cell_of (j := 8) hr4 rfl
      have z9 := cell_of (j := 9) hr4 rfl
      have z10 := cell_of (j := 10) hr4 rfl
      have z11 := cell_of (j := 11) hr4 rfl
      have z12 := cell_of (j := 12) hr4 rfl
      have z13 := cell_of (j := 13) hr4 rfl
      have z14 := cell_of (j := 14) hr4 rfl
      have zf : ∀ i, _ := frz_of hr4
      have k0 : x4.cell? ⟨x1.heap.size, 0, none⟩ = some (nu 0) := cell_of (j := 0) ((hb4.block _ (Array.getElem?_eq_some_iff.1 HE3.out).1).trans HE3.out) rfl
      have k1 : x4.cell? ⟨x1.heap.size, 1, none⟩ = some (nu slot) := cell_of (j := 1) ((hb4.block _ (Array.getElem?_eq_some_iff.1 HE3.out).1).trans HE3.out) rfl
      have k2 : x4.cell? ⟨x1.heap.size, 2, none⟩ = some (nu birth) := cell_of (j := 2) ((hb4.block _ (Array.getElem?_eq_some_iff.1 HE3.out).1).trans HE3.out) rfl
      have k3 : x4.cell? ⟨x1.heap.size, 3, none⟩ = some (nu us) := cell_of (j := 3) ((hb4.block _ (Array.getElem?_eq_some_iff.1 HE3.out).1).trans HE3.out) rfl
      have k4 : x4.cell? ⟨x1.heap.size, 4, none⟩ = some (nu ub) := cell_of (j := 4) ((hb4.block _ (Array.getElem?_eq_some_iff.1 HE3.out).1).trans HE3.out) rfl
      have k5 : x4.cell? ⟨x1.heap.size, 5, none⟩ = some (nu kind) := cell_of (j := 5) ((hb4.block _ (Array.getElem?_eq_some_iff.1 HE3.out).1).trans HE3.out) rfl
      have k6 : x4.cell? ⟨x1.heap.size, 6, none⟩ = some (.string fuser) := cell_of (j := 6) ((hb4.block _ (Array.getElem?_eq_some_iff.1 HE3.out).1).trans HE3.out) rfl
      have k7 : x4.cell? ⟨x1.heap.size, 7, none⟩ = some (.string flabel) := cell_of (j := 7) ((hb4.block _ (Array.getElem?_eq_some_iff.1 HE3.out).1).trans HE3.out) rfl
      have k8 : x4.cell? ⟨x1.heap.size, 8, none⟩ = some (.int .u64 scopes) := cell_of (j := 8) ((hb4.block _ (Array.getElem?_eq_some_iff.1 HE3.out).1).trans HE3.out) rfl
      have k9 : x4.cell? ⟨x1.heap.size, 9, none⟩ = some (nu level) := cell_of (j := 9) ((hb4.block _ (Array.getElem?_eq_some_iff.1 HE3.out).1).trans HE3.out) rfl
      have k10 : x4.cell? ⟨x1.heap.size, 10, none⟩ = some (nu born) := cell_of (j := 10) ((hb4.block _ (Array.getElem?_eq_some_iff.1 HE3.out).1).trans HE3.out) rfl
      have k11 : x4.cell? ⟨x1.heap.size, 11, none⟩ = some (nu deadline) := cell_of (j := 11) ((hb4.block _ (Array.getElem?_eq_some_iff.1 HE3.out).1).trans HE3.out) rfl
      have k12 : x4.cell? ⟨x1.heap.size, 12, none⟩ = some (nu depth) := cell_of (j := 12) ((hb4.block _ (Array.getElem?_eq_some_iff.1 HE3.out).1).trans HE3.out) rfl
      have k13 : x4.cell? ⟨x1.heap.size, 13, none⟩ = some (nu 0) := cell_of (j := 13) ((hb4.block _ (Array.getElem?_eq_some_iff.1 HE3.out).1).trans HE3.out) rfl
      have k14 : x4.cell? ⟨x1.heap.size, 14, none⟩ = some (nu 0) := cell_of (j := 14) ((hb4.block _ (Array.getElem?_eq_some_iff.1 HE3.out).1).trans HE3.out) rfl
      clear hb4 hr4 cM e0 e1 e2 e3 e4 e5 e6 e7 e8 e9 e10 e11 e12 e13 e14 p0 p1 p2 pf
      go_wp2
      have hfu := HFU.out; have hfl := HFL.out; subst hfu hfl
      refine bodyPost_ret (results_evt rfl _ _ w.heap.size ⟨0, ⟨slot, birth, us, ub, kind, user, label, scopes, level, born, deadline, depth⟩, 0, 0⟩ rfl (putE_heap (z := Evt.zero) ⟨0, ⟨slot, birth, us, ub, kind, user, label, scopes, level, born, deadline, depth⟩, 0, 0⟩ HH4.out)) rfl ?_
      exact ⟨by rw [hV.out]; rfl, putE_below ⟨0, ⟨slot, birth, us, ub, kind, user, label, scopes, level, born, deadline, depth⟩, 0, 0⟩ HB4.out (Nat.le_refl _)⟩

end Ev
end Go.Proofs.YtnllplholfhbdaaDoor
/- The document's answer what bytes tell, of each kind. -/
namespace Go.Proofs.YtnllplholfhbdaaDoor
set_option linter.ambiguousOpen false
open Go.RowKit
namespace Ev
open Pk Sm Ft
set_option linter.unusedSimpArgs false
set_option linter.unusedVariables false

set_option maxRecDepth 100000 in
set_option maxHeartbeats 8000000 in
theorem decode_k2 (w : World) (v : Value) (b : List UInt8) (hR : RdB w v b) (l1 : List UInt8) (g1 : Bool) (hk : numT ⟨b, 0, false⟩ = (2, ⟨l1, 0, g1⟩)) (n : Int) (l2 : List UInt8) (no2 : Nat) (g2 : Bool) (hs : intT ⟨l1, 0, g1⟩ = (n, ⟨l2, no2, g2⟩))  :
    Calls Tryd.prog 12 #[v] w fun e w' => e = .returned (.tuple #[.agg (decE b).1.arr, nu ((decE b).2 : Int)]) ∧ Below w.heap.size w w' := by
  have hV0 : Hid (decE b = endT (⟨2, Sn.zero, 0, n⟩, ⟨l2, no2, g2⟩)) := by
    show _ = _
    rw [dec_go _ _ _ _ hk (by decide), rest2, hs]
  have hfit : Evt.fit ⟨2, Sn.zero, 0, n⟩ := ⟨by show ([] : List UInt8).length ≤ 65536; simp, by show ([] : List UInt8).length ≤ 65536; simp, by show (0 : Int) ≤ 0 ∧ (0 : Int) < _; decide⟩
  have cM : Hid (∀ wx, Calls Tryd.prog 22 #[.agg (Evt.arr ⟨2, Sn.zero, 0, n⟩)] wx fun x w' => x = .returned (.bool (mayE ⟨2, Sn.zero, 0, n⟩)) ∧ Below wx.heap.size wx w') := fun wx => may_ref _ wx hfit
  have HS := Hid.mk' hs
  clear hs
  have HK := Hid.mk' hk
  have hD0 : Dn w ((w.alloc (.cells Evt.zero.arr 29)).alloc (.cells #[v, nu 0, .bool false] 74)) (w.heap.size + 1) ⟨b, 0, false⟩ v w.heap.size := by
    have s1 : (w.alloc (.cells Evt.zero.arr 29)).heap.size = w.heap.size + 1 := by simp
    have a := heap_alloc_new w (.cells Evt.zero.arr 29)
    have b' := heap_alloc_new (w.alloc (.cells Evt.zero.arr 29)) (.cells #[v, nu 0, .bool false] 74)
    rw [s1] at b'
    exact ⟨⟨b', hR, ((Below.refl _ w).alloc (Nat.le_refl _) _).alloc (by simp) _, by omega⟩, by rw [Below.heap_alloc _ _ _ (by omega)]; exact a, by omega, Nat.le_refl _⟩
  have cK := Hid.mk' (tnumber _ _ _ _ _ hD0.tk)
  rw [hk] at cK
  have HD0 := Hid.mk' hD0
  obtain ⟨a, cap, rfl, hrest0⟩ := hR
  clear hrest0
  have HZ : Hid (Evt.zero.arr = #[nu 0, nu 0, nu 0, nu 0, nu 0, nu 0, .string ⟨#[]⟩, .string ⟨#[]⟩, .int .u64 0, nu 0, nu 0, nu 0, nu 0, nu 0, nu 0]) := rfl
  rw [HZ.out] at cK HD0
  clear hD0 hk
  have hEA : Evt.arr ⟨2, Sn.zero, 0, n⟩ = #[nu 2, nu 0, nu 0, nu 0, nu 0, nu 0, .string ⟨#[]⟩, .string ⟨#[]⟩, .int .u64 0, nu 0, nu 0, nu 0, nu 0, nu 0, nu n] := by
    skip
    rfl
  simp only [hEA] at cM
  obtain ⟨mv, hmv⟩ : ∃ m, mayE ⟨2, Sn.zero, 0, n⟩ = m := ⟨_, rfl⟩
  rw [hmv] at cM
  have HMV := Hid.mk' hmv
  clear hmv hfit hEA
  obtain ⟨D, hD⟩ : ∃ D, decE b = D := ⟨_, rfl⟩
  rw [hD] at hV0 ⊢
  have hVA : Hid (no2 ≠ 0 → D = (Evt.zero, no2)) := fun h => hV0.out.trans (end_no _ _ h)
  have hVB : Hid (no2 = 0 → l2 ≠ [] → D = (Evt.zero, 3)) := fun h0 h => by
    subst h0
    exact hV0.out.trans (end_left _ _ _ h)
  have hVC : Hid (no2 = 0 → l2 = [] → g2 = true → D = (Evt.zero, 1)) := fun h0 h1 h => by
    subst h0 h1
    exact hV0.out.trans (end_bad _ _ (.inl h))
  have hVD : Hid (no2 = 0 → l2 = [] → mv = false → D = (Evt.zero, 1)) := fun h0 h1 h => by
    subst h0 h1
    exact hV0.out.trans (end_bad _ _ (.inr (HMV.out.trans h)))
  have hVE : Hid (no2 = 0 → l2 = [] → g2 = false → mv = true → D = (⟨2, Sn.zero, 0, n⟩, 0)) := fun h0 h1 h2 h => by
    subst h0 h1 h2
    exact hV0.out.trans (end_ok _ (HMV.out.trans h))
  clear hV0 hD HMV HK
  go_enter Tryd.func12, Tryd.ntmps12
  go_wp2_with fail
  refine cK.out.mono ?_
  rintro e x1 ⟨rfl, y1, ht1, hk1⟩
  have hD1 := HD0.out.call ht1 hk1
  have hDa := hD1.alloc (.cells #[nu 2, nu 0, nu 0, nu 0, nu 0, nu 0, .string ⟨#[]⟩, .string ⟨#[]⟩, .int .u64 0, nu 0, nu 0, nu 0, nu 0, nu 0, nu 0] 29)
  have p1 : x1.cell? ⟨w.heap.size + 1, 1, none⟩ = some (nu 0) := ht1.cells.2.1
  have HD2 := Hid.mk' hDa
  have hx1 := ht1.lt
  have C := Hid.mk' (tint _ _ _ _ _ hDa.tk)
  rw [HS.out] at C
  simp only at C
  clear ht1 hk1 hD1 hDa HD0 cK HS
  go_wp2_with fail
  refine C.out.mono ?_
  rintro e x2 ⟨rfl, y2, ht2, hk2⟩
  have hD2 := HD2.out.call ht2 hk2
  have hp2 := hD2.n1
  have heb : x2.heap[x1.heap.size]? = some (.cells #[nu 2, nu 0, nu 0, nu 0, nu 0, nu 0, .string ⟨#[]⟩, .string ⟨#[]⟩, .int .u64 0, nu 0, nu 0, nu 0, nu 0, nu 0, nu 0] 29) := hk2.at (heap_alloc_new x1 _) (by omega)
  have a0 := cell_of (j := 14) heb rfl
  have af : ∀ i, _ := frz_of heb
  have hK3 : Keep (fun k => k = x1.heap.size) x2 ((x2).setCell ⟨x1.heap.size, 14, none⟩ (nu n)) := by
    iterate 1 (refine Keep.setCell (F := fun k => k = x1.heap.size) ?_ (.inl rfl) _)
    exact Keep.refl _ _
  have gc0 := heb
  have gc1 := heap_setCell_same _ x1.heap.size 14 _ _ (nu n) gc0
  have heb3 : ((x2).setCell ⟨x1.heap.size, 14, none⟩ (nu n)).heap[x1.heap.size]? = some (.cells #[nu 2, nu 0, nu 0, nu 0, nu 0, nu 0, .string ⟨#[]⟩, .string ⟨#[]⟩, .int .u64 0, nu 0, nu 0, nu 0, nu 0, nu 0, nu n] 29) := by
    refine gc1.trans (congrArg (fun c => some (Obj.cells c 29 (0, 0))) ?_)
    simp only [List.setIfInBounds_toArray, List.set]
  have hD3 : Dn w ((x2).setCell ⟨x1.heap.size, 14, none⟩ (nu n)) (w.heap.size + 1) ⟨l2, no2, g2⟩ y2 w.heap.size := hD2.other hK3 (by omega) (by omega) (by omega)
  have HD3 := Hid.mk' hD3
  have HE3 := Hid.mk' heb3
  clear hD3 heb3 hK3 heb hD2 ht2 hk2 HD2 C gc0 gc1 p1
  go_upto_region 15 with fail
  clear af a0
  generalize (x2).setCell ⟨x1.heap.size, 14, none⟩ (nu n) = x3 at *
  have ht3 := HD3.out.tk
  obtain ⟨p0, p1, p2, pf⟩ := ht3.cells
  simp only at p1 p2
  have HB := Hid.mk' ht3.bel
  have HH := Hid.mk' HD3.out.rblk
  obtain ⟨a2, cap2, hy2, hc1, hc2, hrest2⟩ := ht3.row
  clear hrest2
  simp only at hy2 hc1
  subst hy2
  unfold maxLen at hc2
  clear ht3
  by_cases h0 : no2 ≠ 0
  · have h0' : ((no2 : Int) != 0) = true := by simpa using h0
    have hV : Hid (D = (Evt.zero, no2)) := hVA.out h0
    clear h0 cM hc1 hc2 p0 p2
    have hrb := HD3.out.rcells
    have z0 := cell_of (j := 0) hrb rfl
    have s0 : x3.setCell ⟨w.heap.size, 0, none⟩ (nu 0) = x3 := setCell_self hrb rfl
    have d0 : x3.drew.setCell ⟨w.heap.size, 0, none⟩ (nu 0) = x3.drew := setCell_self (w := x3.drew) hrb rfl
    have z1 := cell_of (j := 1) hrb rfl
    have s1 : x3.setCell ⟨w.heap.size, 1, none⟩ (nu 0) = x3 := setCell_self hrb rfl
    have d1 : x3.drew.setCell ⟨w.heap.size, 1, none⟩ (nu 0) = x3.drew := setCell_self (w := x3.drew) hrb rfl
    have z2 := cell_of (j := 2) hrb rfl
    have s2 : x3.setCell ⟨w.heap.size, 2, none⟩ (nu 0) = x3 := setCell_self hrb rfl
    have d2 : x3.drew.setCell ⟨w.heap.size, 2, none⟩ (nu 0) = x3.drew := setCell_self (w := x3.drew) hrb rfl
    have z3 := cell_of (j := 3) hrb rfl
    have s3 : x3.setCell ⟨w.heap.size, 3, none⟩ (nu 0) = x3 := setCell_self hrb rfl
    have d3 : x3.drew.setCell ⟨w.heap.size, 3, none⟩ (nu 0) = x3.drew := setCell_self (w := x3.drew) hrb rfl
    have z4 := cell_of (j := 4) hrb rfl
    have s4 : x3.setCell ⟨w.heap.size, 4, none⟩ (nu 0) = x3 := setCell_self hrb rfl
    have d4 : x3.drew.setCell ⟨w.heap.size, 4, none⟩ (nu 0) = x3.drew := setCell_self (w := x3.drew) hrb rfl
    have z5 := cell_of (j := 5) hrb rfl
    have s5 : x3.setCell ⟨w.heap.size, 5, none⟩ (nu 0) = x3 := setCell_self hrb rfl
    have d5 : x3.drew.setCell ⟨w.heap.size, 5, none⟩ (nu 0) = x3.drew := setCell_self (w := x3.drew) hrb rfl
    have z6 := cell_of (j := 6) hrb rfl
    have s6 : x3.setCell ⟨w.heap.size, 6, none⟩ (.string ⟨#[]⟩) = x3 := setCell_self hrb rfl
    have d6 : x3.drew.setCell ⟨w.heap.size, 6, none⟩ (.string ⟨#[]⟩) = x3.drew := setCell_self (w := x3.drew) hrb rfl
    have z7 := cell_of (j := 7) hrb rfl
    have s7 : x3.setCell ⟨w.heap.size, 7, none⟩ (.string ⟨#[]⟩) = x3 := setCell_self hrb rfl
    have d7 : x3.drew.setCell ⟨w.heap.size, 7, none⟩ (.string ⟨#[]⟩) = x3.drew := setCell_self (w := x3.drew) hrb rfl
    have z8 := cell_of (j := 8) hrb rfl
    have s8 : x3.setCell ⟨w.heap.size, 8, none⟩ (.int .u64 0) = x3 := setCell_self hrb rfl
    have d8 : x3.drew.setCell ⟨w.heap.size, 8, none⟩ (.int .u64 0) = x3.drew := setCell_self (w := x3.drew) hrb rfl
    have z9 := cell_of (j := 9) hrb rfl
    have s9 : x3.setCell ⟨w.heap.size, 9, none⟩ (nu 0) = x3 := setCell_self hrb rfl
    have d9 : x3.drew.setCell ⟨w.heap.size, 9, none⟩ (nu 0) = x3.drew := setCell_self (w := x3.drew) hrb rfl
    have z10 := cell_of (j := 10) hrb rfl
    have s10 : x3.setCell ⟨w.heap.size, 10, none⟩ (nu 0) = x3 := setCell_self hrb rfl
    have d10 : x3.drew.setCell ⟨w.heap.size, 10, none⟩ (nu 0) = x3.drew := setCell_self (w := x3.drew) hrb rfl
    have z11 := cell_of (j := 11) hrb rfl
    have s11 : x3.setCell ⟨w.heap.size, 11, none⟩ (nu 0) = x3 := setCell_self hrb rfl
    have d11 : x3.drew.setCell ⟨w.heap.size, 11, none⟩ (nu 0) = x3.drew := setCell_self (w := x3.drew) hrb rfl
    have z12 := cell_of (j := 12) hrb rfl
    have s12 : x3.setCell ⟨w.heap.size, 12, none⟩ (nu 0) = x3 := setCell_self hrb rfl
    have d12 : x3.drew.setCell ⟨w.heap.size, 12, none⟩ (nu 0) = x3.drew := setCell_self (w := x3.drew) hrb rfl
    have z13 := cell_of (j := 13) hrb rfl
    have s13 : x3.setCell ⟨w.heap.size, 13, none⟩ (nu 0) = x3 := setCell_self hrb rfl
    have d13 : x3.drew.setCell ⟨w.heap.size, 13, none⟩ (nu 0) = x3.drew := setCell_self (w := x3.drew) hrb rfl
    have z14 := cell_of (j := 14) hrb rfl
    have s14 : x3.setCell ⟨w.heap.size, 14, none⟩ (nu 0) = x3 := setCell_self hrb rfl
    have d14 : x3.drew.setCell ⟨w.heap.size, 14, none⟩ (nu 0) = x3.drew := setCell_self (w := x3.drew) hrb rfl
    have zf : ∀ i, _ := frz_of hrb
    clear hrb
    go_wp2_with fail
    go_region
    go_wp2
    refine bodyPost_ret (results_evt rfl _ _ w.heap.size Evt.zero rfl HH.out) rfl ?_
    exact ⟨by rw [hV.out]; rfl, HB.out.drew⟩
  obtain rfl : no2 = 0 := by omega
  simp only [Int.natCast_zero, Int.cast_ofNat_Int] at p1
  by_cases h1 : l2 = []
  case neg =>
    have h1' : (0 : Int) < (l2.length : Int) := by have := List.length_pos_iff.2 h1; omega
    have hV : Hid (D = (Evt.zero, 3)) := hVB.out rfl h1
    clear h0 h1 cM
    have hrb := HD3.out.rcells
    have z0 := cell_of (j := 0) hrb rfl
    have s0 : x3.setCell ⟨w.heap.size, 0, none⟩ (nu 0) = x3 := setCell_self hrb rfl
    have z1 := cell_of (j := 1) hrb rfl
    have s1 : x3.setCell ⟨w.heap.size, 1, none⟩ (nu 0) = x3 := setCell_self hrb rfl
    have z2 := cell_of (j := 2) hrb rfl
    have s2 : x3.setCell ⟨w.heap.size, 2, none⟩ (nu 0) = x3 := setCell_self hrb rfl
    have z3 := cell_of (j := 3) hrb rfl
    have s3 : x3.setCell ⟨w.heap.size, 3, none⟩ (nu 0) = x3 := setCell_self hrb rfl
    have z4 := cell_of (j := 4) hrb rfl
    have s4 : x3.setCell ⟨w.heap.size, 4, none⟩ (nu 0) = x3 := setCell_self hrb rfl
    have z5 := cell_of (j := 5) hrb rfl
    have s5 : x3.setCell ⟨w.heap.size, 5, none⟩ (nu 0) = x3 := setCell_self hrb rfl
    have z6 := cell_of (j := 6) hrb rfl
    have s6 : x3.setCell ⟨w.heap.size, 6, none⟩ (.string ⟨#[]⟩) = x3 := setCell_self hrb rfl
    have z7 := cell_of (j := 7) hrb rfl
    have s7 : x3.setCell ⟨w.heap.size, 7, none⟩ (.string ⟨#[]⟩) = x3 := setCell_self hrb rfl
    have z8 := cell_of (j := 8) hrb rfl
    have s8 : x3.setCell ⟨w.heap.size, 8, none⟩ (.int .u64 0) = x3 := setCell_self hrb rfl
    have z9 := cell_of (j := 9) hrb rfl
    have s9 : x3.setCell ⟨w.heap.size, 9, none⟩ (nu 0) = x3 := setCell_self hrb rfl
    have z10 := cell_of (j := 10) hrb rfl
    have s10 : x3.setCell ⟨w.heap.size, 10, none⟩ (nu 0) = x3 := setCell_self hrb rfl
    have z11 := cell_of (j := 11) hrb rfl
    have s11 : x3.setCell ⟨w.heap.size, 11, none⟩ (nu 0) = x3 := setCell_self hrb rfl
    have z12 := cell_of (j := 12) hrb rfl
    have s12 : x3.setCell ⟨w.heap.size, 12, none⟩ (nu 0) = x3 := setCell_self hrb rfl
    have z13 := cell_of (j := 13) hrb rfl
    have s13 : x3.setCell ⟨w.heap.size, 13, none⟩ (nu 0) = x3 := setCell_self hrb rfl
    have z14 := cell_of (j := 14) hrb rfl
    have s14 : x3.setCell ⟨w.heap.size, 14, none⟩ (nu 0) = x3 := setCell_self hrb rfl
    have zf : ∀ i, _ := frz_of hrb
    clear hrb
    go_wp2
    refine bodyPost_ret (results_evt rfl _ _ w.heap.size Evt.zero rfl HH.out) rfl ?_
    exact ⟨by rw [hV.out]; rfl, HB.out⟩
  subst h1
  simp only [List.length_nil] at p0
  cases g2 with
  | true =>
    have hV : Hid (D = (Evt.zero, 1)) := hVC.out rfl rfl rfl
    clear h0 cM
    have hrb := HD3.out.rcells
    have z0 := cell_of (j := 0) hrb rfl
    have s0 : x3.setCell ⟨w.heap.size, 0, none⟩ (nu 0) = x3 := setCell_self hrb rfl
    have z1 := cell_of (j := 1) hrb rfl
    have s1 : x3.setCell ⟨w.heap.size, 1, none⟩ (nu 0) = x3 := setCell_self hrb rfl
    have z2 := cell_of (j := 2) hrb rfl
    have s2 : x3.setCell ⟨w.heap.size, 2, none⟩ (nu 0) = x3 := setCell_self hrb rfl
    have z3 := cell_of (j := 3) hrb rfl
    have s3 : x3.setCell ⟨w.heap.size, 3, none⟩ (nu 0) = x3 := setCell_self hrb rfl
    have z4 := cell_of (j := 4) hrb rfl
    have s4 : x3.setCell ⟨w.heap.size, 4, none⟩ (nu 0) = x3 := setCell_self hrb rfl
    have z5 := cell_of (j := 5) hrb rfl
    have s5 : x3.setCell ⟨w.heap.size, 5, none⟩ (nu 0) = x3 := setCell_self hrb rfl
    have z6 := cell_of (j := 6) hrb rfl
    have s6 : x3.setCell ⟨w.heap.size, 6, none⟩ (.string ⟨#[]⟩) = x3 := setCell_self hrb rfl
    have z7 := cell_of (j := 7) hrb rfl
    have s7 : x3.setCell ⟨w.heap.size, 7, none⟩ (.string ⟨#[]⟩) = x3 := setCell_self hrb rfl
    have z8 := cell_of (j := 8) hrb rfl
    have s8 : x3.setCell ⟨w.heap.size, 8, none⟩ (.int .u64 0) = x3 := setCell_self hrb rfl
    have z9 := cell_of (j := 9) hrb rfl
    have s9 : x3.setCell ⟨w.heap.size, 9, none⟩ (nu 0) = x3 := setCell_self hrb rfl
    have z10 := cell_of (j := 10) hrb rfl
    have s10 : x3.setCell ⟨w.heap.size, 10, none⟩ (nu 0) = x3 := setCell_self hrb rfl
    have z11 := cell_of (j := 11) hrb rfl
    have s11 : x3.setCell ⟨w.heap.size, 11, none⟩ (nu 0) = x3 := setCell_self hrb rfl
    have z12 := cell_of (j := 12) hrb rfl
    have s12 : x3.setCell ⟨w.heap.size, 12, none⟩ (nu 0) = x3 := setCell_self hrb rfl
    have z13 := cell_of (j := 13) hrb rfl
    have s13 : x3.setCell ⟨w.heap.size, 13, none⟩ (nu 0) = x3 := setCell_self hrb rfl
    have z14 := cell_of (j := 14) hrb rfl
    have s14 : x3.setCell ⟨w.heap.size, 14, none⟩ (nu 0) = x3 := setCell_self hrb rfl
    have zf : ∀ i, _ := frz_of hrb
    clear hrb
    go_wp2
    refine bodyPost_ret (results_evt rfl _ _ w.heap.size Evt.zero rfl HH.out) rfl ?_
    exact ⟨by rw [hV.out]; rfl, HB.out⟩
  | false =>
    have e0 := cell_of (j := 0) HE3.out rfl
    have e1 := cell_of (j := 1) HE3.out rfl
    have e2 := cell_of (j := 2) HE3.out rfl
    have e3 := cell_of (j := 3) HE3.out rfl
    have e4 := cell_of (j := 4) HE3.out rfl
    have e5 := cell_of (j := 5) HE3.out rfl
    have e6 := cell_of (j := 6) HE3.out rfl
    have e7 := cell_of (j := 7) HE3.out rfl
    have e8 := cell_of (j := 8) HE3.out rfl
    have e9 := cell_of (j := 9) HE3.out rfl
    have e10 := cell_of (j := 10) HE3.out rfl
    have e11 := cell_of (j := 11) HE3.out rfl
    have e12 := cell_of (j := 12) HE3.out rfl
    have e13 := cell_of (j := 13) HE3.out rfl
    have e14 := cell_of (j := 14) HE3.out rfl
    clear h0
    cases mv with
    | false =>
      have hV : Hid (D = (Evt.zero, 1)) := hVD.out rfl rfl rfl
      go_wp2_with fail
      refine (cM.out _).mono ?_
      rintro e x4 ⟨rfl, hb4⟩
      have hr4 : x4.heap[w.heap.size]? = some (.cells #[nu 0, nu 0, nu 0, nu 0, nu 0, nu 0, .string ⟨#[]⟩, .string ⟨#[]⟩, .int .u64 0, nu 0, nu 0, nu 0, nu 0, nu 0, nu 0] 29) := (hb4.block _ (Array.getElem?_eq_some_iff.1 HD3.out.rblk).1).trans HD3.out.rcells
      have HB4 := Hid.mk' (HB.out.trans (hb4.mono HB.out.size))
      have HH4 : Hid (x4.heap[w.heap.size]? = some (.cells Evt.zero.arr 29 (0, 0))) := hr4
      have hrb := hr4
      have z0 := cell_of (j := 0) hrb rfl
      have s0 : x4.setCell ⟨w.heap.size, 0, none⟩ (nu 0) = x4 := setCell_self hrb rfl
      have z1 := cell_of (j := 1) hrb rfl
      have s1 : x4.setCell ⟨w.heap.size, 1, none⟩ (nu 0) = x4 := setCell_self hrb rfl
      have z2 := cell_of (j := 2) hrb rfl
      have s2 : x4.setCell ⟨w.heap.size, 2, none⟩ (nu 0) = x4 := setCell_self hrb rfl
      have z3 := cell_of (j := 3) hrb rfl
      have s3 : x4.setCell ⟨w.heap.size, 3, none⟩ (nu 0) = x4 := setCell_self hrb rfl
      have z4 := cell_of (j := 4) hrb rfl
      have s4 : x4.setCell ⟨w.heap.size, 4, none⟩ (nu 0) = x4 := setCell_self hrb rfl
      have z5 := cell_of (j := 5) hrb rfl
      have s5 : x4.setCell ⟨w.heap.size, 5, none⟩ (nu 0) = x4 := setCell_self hrb rfl
      have z6 := cell_of (j := 6) hrb rfl
      have s6 : x4.setCell ⟨w.heap.size, 6, none⟩ (.string ⟨#[]⟩) = x4 := setCell_self hrb rfl
      have z7 := cell_of (j := 7) hrb rfl
      have s7 : x4.setCell ⟨w.heap.size, 7, none⟩ (.string ⟨#[]⟩) = x4 := setCell_self hrb rfl
      have z8 := cell_of (j := 8) hrb rfl
      have s8 : x4.setCell ⟨w.heap.size, 8, none⟩ (.int .u64 0) = x4 := setCell_self hrb rfl
      have z9 := cell_of (j := 9) hrb rfl
      have s9 : x4.setCell ⟨w.heap.size, 9, none⟩ (nu 0) = x4 := setCell_self hrb rfl
      have z10 := cell_of (j := 10) hrb rfl
      have s10 : x4.setCell ⟨w.heap.size, 10, none⟩ (nu 0) = x4 := setCell_self hrb rfl
      have z11 := cell_of (j := 11) hrb rfl
      have s11 : x4.setCell ⟨w.heap.size, 11, none⟩ (nu 0) = x4 := setCell_self hrb rfl
      have z12 := cell_of (j := 12) hrb rfl
      have s12 : x4.setCell ⟨w.heap.size, 12, none⟩ (nu 0) = x4 := setCell_self hrb rfl
      have z13 := cell_of (j := 13) hrb rfl
      have s13 : x4.setCell ⟨w.heap.size, 13, none⟩ (nu 0) = x4 := setCell_self hrb rfl
      have z14 := cell_of (j := 14) hrb rfl
      have s14 : x4.setCell ⟨w.heap.size, 14, none⟩ (nu 0) = x4 := setCell_self hrb rfl
      have zf : ∀ i, _ := frz_of hrb
      clear hrb
      clear hb4 hr4 cM
      go_wp2
      refine bodyPost_ret (results_evt rfl _ _ w.heap.size Evt.zero rfl HH4.out) rfl ?_
      exact ⟨by rw [hV.out]; rfl, HB4.out⟩
    | true =>
      have hV : Hid (D = (⟨2, Sn.zero, 0, n⟩, 0)) := hVE.out rfl rfl rfl rfl
      go_wp2_with fail
      refine (cM.out _).mono ?_
      rintro e x4 ⟨rfl, hb4⟩
      have hr4 : x4.heap[w.heap.size]? = some (.cells #[nu 0, nu 0, nu 0, nu 0, nu 0, nu 0, .string ⟨#[]⟩, .string ⟨#[]⟩, .int .u64 0, nu 0, nu 0, nu 0, nu 0, nu 0, nu 0] 29) := (hb4.block _ (Array.getElem?_eq_some_iff.1 HD3.out.rblk).1).trans HD3.out.rcells
      have HB4 := Hid.mk' (HB.out.trans (hb4.mono HB.out.size))
      have HH4 : Hid (x4.heap[w.heap.size]? = some (.cells Evt.zero.arr 29 (0, 0))) := hr4
      have z0 := cell_of (j := 0) hr4 rfl
      have z1 := cell_of (j := 1) hr4 rfl
      have z2 := cell_of (j := 2) hr4 rfl
      have z3 := cell_of (j := 3) hr4 rfl
      have z4 := cell_of (j := 4) hr4 rfl
      have z5 := cell_of (j := 5) hr4 rfl
      have z6 := cell_of (j := 6) hr4 rfl
      have z7 := cell_of (j := 7) hr4 rfl
      have z8 := cell_of (j := 8) hr4 rfl
      have z9 := cell_of (j := 9) hr4 rfl
      have z10 := cell_of (j := 10) hr4 rfl
      have z11 := cell_of (j := 11) hr4 rfl
      have z12 := cell_of (j := 12) hr4 rfl
      have z13 := cell_of (j := 13) hr4 rfl
      have z14 := cell_of (j := 14) hr4 rfl
      have zf : ∀ i, _ := frz_of hr4
      have k0 : x4.cell? ⟨x1.heap.size, 0, none⟩ = some (nu 2) := cell_of (j := 0) ((hb4.block _ (Array.getElem?_eq_some_iff.1 HE3.out).1).trans HE3.out) rfl
      have k1 : x4.cell? ⟨x1.heap.size, 1, none⟩ = some (nu 0) := cell_of (j := 1) ((hb4.block _ (Array.getElem?_eq_some_iff.1 HE3.out).1).trans HE3.out) rfl
      have k2 : x4.cell? ⟨x1.heap.size, 2, none⟩ = some (nu 0) := cell_of (j := 2) ((hb4.block _ (Array.getElem?_eq_some_iff.1 HE3.out).1).trans HE3.out) rfl
      have k3 : x4.cell? ⟨x1.heap.size, 3, none⟩ = some (nu 0) := cell_of (j := 3) ((hb4.block _ (Array.getElem?_eq_some_iff.1 HE3.out).1).trans HE3.out) rfl
      have k4 : x4.cell? ⟨x1.heap.size, 4, none⟩ = some (nu 0) := cell_of (j := 4) ((hb4.block _ (Array.getElem?_eq_some_iff.1 HE3.out).1).trans HE3.out) rfl
      have k5 : x4.cell? ⟨x1.heap.size, 5, none⟩ = some (nu 0) := cell_of (j := 5) ((hb4.block _ (Array.getElem?_eq_some_iff.1 HE3.out).1).trans HE3.out) rfl
      have k6 : x4.cell? ⟨x1.heap.size, 6, none⟩ = some (.string ⟨#[]⟩) := cell_of (j := 6) ((hb4.block _ (Array.getElem?_eq_some_iff.1 HE3.out).1).trans HE3.out) rfl
      have k7 : x4.cell? ⟨x1.heap.size, 7, none⟩ = some (.string ⟨#[]⟩) := cell_of (j := 7) ((hb4.block _ (Array.getElem?_eq_some_iff.1 HE3.out).1).trans HE3.out) rfl
      have k8 : x4.cell? ⟨x1.heap.size, 8, none⟩ = some (.int .u64 0) := cell_of (j := 8) ((hb4.block _ (Array.getElem?_eq_some_iff.1 HE3.out).1).trans HE3.out) rfl
      have k9 : x4.cell? ⟨x1.heap.size, 9, none⟩ = some (nu 0) := cell_of (j := 9) ((hb4.block _ (Array.getElem?_eq_some_iff.1 HE3.out).1).trans HE3.out) rfl
      have k10 : x4.cell? ⟨x1.heap.size, 10, none⟩ = some (nu 0) := cell_of (j := 10) ((hb4.block _ (Array.getElem?_eq_some_iff.1 HE3.out).1).trans HE3.out) rfl
      have k11 : x4.cell? ⟨x1.heap.size, 11, none⟩ = some (nu 0) := cell_of (j := 11) ((hb4.block _ (Array.getElem?_eq_some_iff.1 HE3.out).1).trans HE3.out) rfl
      have k12 : x4.cell? ⟨x1.heap.size, 12, none⟩ = some (nu 0) := cell_of (j := 12) ((hb4.block _ (Array.getElem?_eq_some_iff.1 HE3.out).1).trans HE3.out) rfl
      have k13 : x4.cell? ⟨x1.heap.size, 13, none⟩ = some (nu 0) := cell_of (j := 13) ((hb4.block _ (Array.getElem?_eq_some_iff.1 HE3.out).1).trans HE3.out) rfl
      have k14 : x4.cell? ⟨x1.heap.size, 14, none⟩ = some (nu n) := cell_of (j := 14) ((hb4.block _ (Array.getElem?_eq_some_iff.1 HE3.out).1).trans HE3.out) rfl
      clear hb4 hr4 cM e0 e1 e2 e3 e4 e5 e6 e7 e8 e9 e10 e11 e12 e13 e14 p0 p1 p2 pf
      go_wp2
      skip
      refine bodyPost_ret (results_evt rfl _ _ w.heap.size ⟨2, Sn.zero, 0, n⟩ rfl (putE_heap (z := Evt.zero) ⟨2, Sn.zero, 0, n⟩ HH4.out)) rfl ?_
      exact ⟨by rw [hV.out]; rfl, putE_below ⟨2, Sn.zero, 0, n⟩ HB4.out (Nat.le_refl _)⟩

end Ev
end Go.Proofs.YtnllplholfhbdaaDoor
/- The document's answer what bytes tell, of each kind. -/
namespace Go.Proofs.YtnllplholfhbdaaDoor
set_option linter.ambiguousOpen false
open Go.RowKit
namespace Ev
open Pk Sm Ft
set_option linter.unusedSimpArgs false
set_option linter.unusedVariables false

theorem decode_ref (w : World) (v : Value) (b : List UInt8) (hR : RdB w v b) :
    Calls Tryd.prog 12 #[v] w fun e w' => e = .returned (.tuple #[.agg (decE b).1.arr, nu ((decE b).2 : Int)]) ∧ Below w.heap.size w w' := by
  obtain ⟨k, t1, hk⟩ : ∃ k t1, numT ⟨b, 0, false⟩ = (k, t1) := ⟨_, _, rfl⟩
  by_cases hc : t1.no ≠ 0 ∨ 2 < k
  · exact decode_early w v b hR k t1 hk hc
  · obtain ⟨l1, no1, g1⟩ := t1
    obtain rfl : no1 = 0 := Decidable.byContradiction fun h => hc (.inl h)
    have hk2 : k ≤ 2 := Nat.le_of_not_lt fun h => hc (.inr h)
    clear hc
    match k, hk2, hk with
    | 0, _, hk =>
      have hf := born_fit ⟨l1, 0, g1⟩
      obtain ⟨s, t2, hs⟩ : ∃ s t2, bornT ⟨l1, 0, g1⟩ = (s, t2) := ⟨(bornT ⟨l1, 0, g1⟩).1, (bornT ⟨l1, 0, g1⟩).2, (Prod.eta _).symm⟩
      rw [hs] at hf
      obtain ⟨slot, birth, us, ub, kind, user, label, scopes, level, born, deadline, depth⟩ := s
      obtain ⟨l2, no2, g2⟩ := t2
      exact decode_k0 w v b hR l1 g1 hk _ _ _ _ _ _ _ _ _ _ _ _ l2 no2 g2 hs hf
    | 1, _, hk =>
      obtain ⟨n, ⟨l2, no2, g2⟩, hs⟩ : ∃ n t2, intT ⟨l1, 0, g1⟩ = (n, t2) := ⟨_, _, rfl⟩
      exact decode_k1 w v b hR l1 g1 hk n l2 no2 g2 hs
    | 2, _, hk =>
      obtain ⟨n, ⟨l2, no2, g2⟩, hs⟩ : ∃ n t2, intT ⟨l1, 0, g1⟩ = (n, t2) := ⟨_, _, rfl⟩
      exact decode_k2 w v b hR l1 g1 hk n l2 no2 g2 hs
end Ev
end Go.Proofs.YtnllplholfhbdaaDoor
