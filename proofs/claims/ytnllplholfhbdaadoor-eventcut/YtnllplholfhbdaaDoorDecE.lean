/- The document's answer what bytes tell: a session, one number or text behind the other. -/
import Derived.Test.YtnllplholfhbdaaDoorTknE
import Derived.Test.YtnllplholfhbdaaDoorBytE
namespace Go.Proofs.YtnllplholfhbdaaDoor
set_option linter.ambiguousOpen false
open Go.RowKit
namespace Ev
open Pk Sm Ft
set_option linter.unusedSimpArgs false
set_option linter.unusedVariables false

/-- It is put into a variable. -/
def putN (w : World) (b : Nat) (s : Sn) : World := (((((((((((w.setCell ⟨b, 0, none⟩ (nu s.slot)).setCell ⟨b, 1, none⟩ (nu s.birth)).setCell ⟨b, 2, none⟩ (nu s.us)).setCell ⟨b, 3, none⟩ (nu s.ub)).setCell ⟨b, 4, none⟩ (nu s.kind)).setCell ⟨b, 5, none⟩ (.string (tx s.user))).setCell ⟨b, 6, none⟩ (.string (tx s.label))).setCell ⟨b, 7, none⟩ (.int .u64 s.scopes)).setCell ⟨b, 8, none⟩ (nu s.level)).setCell ⟨b, 9, none⟩ (nu s.born)).setCell ⟨b, 10, none⟩ (nu s.deadline)).setCell ⟨b, 11, none⟩ (nu s.depth)

theorem putN_heap {w : World} {b : Nat} {z : Sn} (s : Sn) (h : w.heap[b]? = some (.cells z.arr 27 (0, 0))) : (putN w b s).heap[b]? = some (.cells s.arr 27 (0, 0)) := by
  have h0 := heap_setCell_same _ b 0 _ _ (nu s.slot) h
  have h1 := heap_setCell_same _ b 1 _ _ (nu s.birth) h0
  have h2 := heap_setCell_same _ b 2 _ _ (nu s.us) h1
  have h3 := heap_setCell_same _ b 3 _ _ (nu s.ub) h2
  have h4 := heap_setCell_same _ b 4 _ _ (nu s.kind) h3
  have h5 := heap_setCell_same _ b 5 _ _ (.string (tx s.user)) h4
  have h6 := heap_setCell_same _ b 6 _ _ (.string (tx s.label)) h5
  have h7 := heap_setCell_same _ b 7 _ _ (.int .u64 s.scopes) h6
  have h8 := heap_setCell_same _ b 8 _ _ (nu s.level) h7
  have h9 := heap_setCell_same _ b 9 _ _ (nu s.born) h8
  have h10 := heap_setCell_same _ b 10 _ _ (nu s.deadline) h9
  have h11 := heap_setCell_same _ b 11 _ _ (nu s.depth) h10
  unfold putN
  refine h11.trans (congrArg (fun c => some (Obj.cells c 27 (0, 0))) ?_)
  simp only [Sn.arr, List.setIfInBounds_toArray, List.set]

theorem putN_other {w : World} {b k : Nat} (s : Sn) (hk : k ≠ b) : (putN w b s).heap[k]? = w.heap[k]? := by
  unfold putN
  simp only [heap_setCell_other _ _ _ _ (show k ≠ (⟨b, _, none⟩ : Addr).block from hk)]

theorem putN_keep {w0 w : World} {G : Nat → Prop} {b : Nat} (s : Sn) (h : Keep G w0 w) (hb : G b ∨ w0.heap.size ≤ b) : Keep G w0 (putN w b s) := by
  unfold putN
  iterate 12 (refine Keep.setCell ?_ hb _)
  exact h

theorem sizeN (s : Sn) : (Tryd.prog.info? 27).map (·.size) = some s.arr.size := by
  show _ = some 12
  kernel_rfl

/-- It is put into a variable. -/
def putE (w : World) (b : Nat) (e : Evt) : World := ((((((((((((((w.setCell ⟨b, 0, none⟩ (nu e.kind)).setCell ⟨b, 1, none⟩ (nu e.s.slot)).setCell ⟨b, 2, none⟩ (nu e.s.birth)).setCell ⟨b, 3, none⟩ (nu e.s.us)).setCell ⟨b, 4, none⟩ (nu e.s.ub)).setCell ⟨b, 5, none⟩ (nu e.s.kind)).setCell ⟨b, 6, none⟩ (.string (tx e.s.user))).setCell ⟨b, 7, none⟩ (.string (tx e.s.label))).setCell ⟨b, 8, none⟩ (.int .u64 e.s.scopes)).setCell ⟨b, 9, none⟩ (nu e.s.level)).setCell ⟨b, 10, none⟩ (nu e.s.born)).setCell ⟨b, 11, none⟩ (nu e.s.deadline)).setCell ⟨b, 12, none⟩ (nu e.s.depth)).setCell ⟨b, 13, none⟩ (nu e.birth)).setCell ⟨b, 14, none⟩ (nu e.ticks)

theorem putE_heap {w : World} {b : Nat} {z : Evt} (e : Evt) (h : w.heap[b]? = some (.cells z.arr 29 (0, 0))) : (putE w b e).heap[b]? = some (.cells e.arr 29 (0, 0)) := by
  have h0 := heap_setCell_same _ b 0 _ _ (nu e.kind) h
  have h1 := heap_setCell_same _ b 1 _ _ (nu e.s.slot) h0
  have h2 := heap_setCell_same _ b 2 _ _ (nu e.s.birth) h1
  have h3 := heap_setCell_same _ b 3 _ _ (nu e.s.us) h2
  have h4 := heap_setCell_same _ b 4 _ _ (nu e.s.ub) h3
  have h5 := heap_setCell_same _ b 5 _ _ (nu e.s.kind) h4
  have h6 := heap_setCell_same _ b 6 _ _ (.string (tx e.s.user)) h5
  have h7 := heap_setCell_same _ b 7 _ _ (.string (tx e.s.label)) h6
  have h8 := heap_setCell_same _ b 8 _ _ (.int .u64 e.s.scopes) h7
  have h9 := heap_setCell_same _ b 9 _ _ (nu e.s.level) h8
  have h10 := heap_setCell_same _ b 10 _ _ (nu e.s.born) h9
  have h11 := heap_setCell_same _ b 11 _ _ (nu e.s.deadline) h10
  have h12 := heap_setCell_same _ b 12 _ _ (nu e.s.depth) h11
  have h13 := heap_setCell_same _ b 13 _ _ (nu e.birth) h12
  have h14 := heap_setCell_same _ b 14 _ _ (nu e.ticks) h13
  unfold putE
  refine h14.trans (congrArg (fun c => some (Obj.cells c 29 (0, 0))) ?_)
  simp only [Evt.arr, List.setIfInBounds_toArray, List.set]

theorem putE_other {w : World} {b k : Nat} (e : Evt) (hk : k ≠ b) : (putE w b e).heap[k]? = w.heap[k]? := by
  unfold putE
  simp only [heap_setCell_other _ _ _ _ (show k ≠ (⟨b, _, none⟩ : Addr).block from hk)]

theorem putE_keep {w0 w : World} {G : Nat → Prop} {b : Nat} (e : Evt) (h : Keep G w0 w) (hb : G b ∨ w0.heap.size ≤ b) : Keep G w0 (putE w b e) := by
  unfold putE
  iterate 15 (refine Keep.setCell ?_ hb _)
  exact h

theorem sizeE (e : Evt) : (Tryd.prog.info? 29).map (·.size) = some e.arr.size := by
  show _ = some 15
  kernel_rfl

theorem results_evt {fn : Func} {p u : Tmp} (h : fn.results = #[.cell p 29, .tmp u]) (tmps : Array Value) (w : World) (g : Nat) (e : Evt)
    (hp : tmps.getD p undef = .pointer (some ⟨g, 0, none⟩)) (hg : w.heap[g]? = some (.cells e.arr 29 (0, 0))) :
    (results fn tmps).run Tryd.prog w = .ok (.tuple #[.agg e.arr, tmps.getD u undef]) w := by
  rw [results_cell_tmp h, hp]
  simp only [asAddr, Sem.run_pure, Result.andThen_ok, run_loadVar_row w g _ 29 _ _ _ hg Tryd.underlying29 rfl (sizeE e)]

/-- A session under way: what was taken, the result's block, the session's block. -/
structure Bn (wE w0 w : World) (p : Nat) (t : Tkn) (v : Value) (rb sb : Nat) (xs : Array Value) : Prop where
  tk : TkR w0 w p t v
  rblk : w.heap[rb]? = some (.cells Sn.zero.arr 27)
  sblk : w.heap[sb]? = some (.cells xs 27)
  n1 : rb ≠ p
  n2 : sb ≠ p
  n3 : rb ≠ sb
  r0 : wE.heap.size ≤ rb
  s0 : wE.heap.size ≤ sb
  w0E : w0.heap.size ≤ wE.heap.size
  K : Keep (fun k => k = p) wE w

theorem Bn.call {wE w0 w w' : World} {p : Nat} {t t' : Tkn} {v v' : Value} {rb sb : Nat} {xs : Array Value} (h : Bn wE w0 w p t v rb sb xs) (ht : TkR w0 w' p t' v') (hk : Keep (fun k => k = p) w w') : Bn wE w0 w' p t' v' rb sb xs :=
  ⟨ht, hk.at h.rblk h.n1, hk.at h.sblk h.n2, h.n1, h.n2, h.n3, h.r0, h.s0, h.w0E, h.K.trans hk (fun _ _ h => h)⟩

theorem Bn.set {wE w0 w : World} {p : Nat} {t : Tkn} {v : Value} {rb sb : Nat} {xs ys : Array Value} (h : Bn wE w0 w p t v rb sb xs) (j : Nat) (u : Value) (hy : xs.setIfInBounds j u = ys) : Bn wE w0 (w.setCell ⟨sb, j, none⟩ u) p t v rb sb ys := by
  have hK : Keep (fun k => k = sb) w (w.setCell ⟨sb, j, none⟩ u) := (Keep.refl (fun k => k = sb) w).setCell (p := ⟨sb, j, none⟩) (.inl rfl) _
  have hB := heap_setCell_same _ sb j _ _ u h.sblk
  rw [hy] at hB
  exact ⟨h.tk.keep hK (fun e => h.n2 e.symm) (fun k hk e => by have := h.s0; have := h.w0E; omega), hK.at h.rblk h.n3, hB, h.n1, h.n2, h.n3, h.r0, h.s0, h.w0E, h.K.setCell (p := ⟨sb, j, none⟩) (.inr h.s0) _⟩

theorem Bn.at {wE w0 w : World} {p : Nat} {t : Tkn} {v : Value} {rb sb : Nat} {xs : Array Value} (h : Bn wE w0 w p t v rb sb xs) (j : Nat) (u : Value) (hj : xs[j]? = some u) : w.cell? ⟨sb, j, none⟩ = some u ∧ w.frozen? ⟨sb, j, none⟩ = false :=
  ⟨cell_of h.sblk hj, by simp [World.frozen?, h.sblk]⟩

theorem Bn.frz {wE w0 w : World} {p : Nat} {t : Tkn} {v : Value} {rb sb : Nat} {xs : Array Value} (h : Bn wE w0 w p t v rb sb xs) (j : Nat) : w.frozen? ⟨rb, j, none⟩ = false := by simp [World.frozen?, h.rblk]

theorem bornT_eq (t : Tkn) {v1 v2 v3 v4 v5 v9 v10 v11 v12 : Int} {v6 v7 : List UInt8} {v8 : Nat} {t1 t2 t3 t4 t5 t6 t7 t8 t9 t10 t11 t12 : Tkn} (h1 : intT t = (v1, t1)) (h2 : intT t1 = (v2, t2)) (h3 : intT t2 = (v3, t3)) (h4 : intT t3 = (v4, t4)) (h5 : intT t4 = (v5, t5)) (h6 : txtT t5 = (v6, t6)) (h7 : txtT t6 = (v7, t7)) (h8 : numT t7 = (v8, t8)) (h9 : intT t8 = (v9, t9)) (h10 : intT t9 = (v10, t10)) (h11 : intT t10 = (v11, t11)) (h12 : intT t11 = (v12, t12)) :
    bornT t = (⟨v1, v2, v3, v4, v5, v6, v7, (v8 : Int), v9, v10, v11, v12⟩, t12) := by
  unfold bornT
  simp only [h1, h2, h3, h4, h5, h6, h7, h8, h9, h10, h11, h12]

set_option maxRecDepth 100000 in
set_option maxHeartbeats 8000000 in
theorem tborn (w0 w : World) (p : Nat) (t : Tkn) (v : Value) (h : TkR w0 w p t v) :
    Calls Tryd.prog 33 #[ptr p] w fun e w' => e = .returned (.agg (bornT t).1.arr) ∧ ∃ v', TkR w0 w' p (bornT t).2 v' ∧ Keep (fun k => k = p) w w' := by
  have hlt := h.lt
  have hws := h.bel.size
  have h0b : Below w.heap.size w ((w.alloc (.cells Sn.zero.arr 27)).alloc (.cells Sn.zero.arr 27)) := ((Below.refl _ w).alloc (Nat.le_refl _) _).alloc (by simp) _
  have hBn : Bn w w0 ((w.alloc (.cells Sn.zero.arr 27)).alloc (.cells Sn.zero.arr 27)) p t v w.heap.size (w.heap.size + 1) Sn.zero.arr := by
    have s1 : (w.alloc (.cells Sn.zero.arr 27)).heap.size = w.heap.size + 1 := by simp
    have a := heap_alloc_new w (.cells Sn.zero.arr 27)
    have b := heap_alloc_new (w.alloc (.cells Sn.zero.arr 27)) (.cells Sn.zero.arr 27)
    rw [s1] at b
    exact ⟨h.keep (Keep.of_below (F := fun _ => False) h0b) (fun h => h) (fun _ _ h => h), by rw [Below.heap_alloc _ _ _ (by omega)]; exact a, b, by omega, by omega, by omega, Nat.le_refl _, by omega, hws, Keep.of_below h0b⟩
  obtain ⟨v1, t1, g1⟩ : ∃ v t', intT t = (v, t') := ⟨_, _, rfl⟩
  obtain ⟨v2, t2, g2⟩ : ∃ v t', intT t1 = (v, t') := ⟨_, _, rfl⟩
  obtain ⟨v3, t3, g3⟩ : ∃ v t', intT t2 = (v, t') := ⟨_, _, rfl⟩
  obtain ⟨v4, t4, g4⟩ : ∃ v t', intT t3 = (v, t') := ⟨_, _, rfl⟩
  obtain ⟨v5, t5, g5⟩ : ∃ v t', intT t4 = (v, t') := ⟨_, _, rfl⟩
  obtain ⟨v6, t6, g6⟩ : ∃ v t', txtT t5 = (v, t') := ⟨_, _, rfl⟩
  obtain ⟨v7, t7, g7⟩ : ∃ v t', txtT t6 = (v, t') := ⟨_, _, rfl⟩
  obtain ⟨v8, t8, g8⟩ : ∃ v t', numT t7 = (v, t') := ⟨_, _, rfl⟩
  obtain ⟨v9, t9, g9⟩ : ∃ v t', intT t8 = (v, t') := ⟨_, _, rfl⟩
  obtain ⟨v10, t10, g10⟩ : ∃ v t', intT t9 = (v, t') := ⟨_, _, rfl⟩
  obtain ⟨v11, t11, g11⟩ : ∃ v t', intT t10 = (v, t') := ⟨_, _, rfl⟩
  obtain ⟨v12, t12, g12⟩ : ∃ v t', intT t11 = (v, t') := ⟨_, _, rfl⟩
  have c1 : Hid (∀ wx vx, TkR w0 wx p t vx → Calls Tryd.prog 34 #[ptr p] wx fun e w' => e = .returned (nu v1) ∧ ∃ v', TkR w0 w' p t1 v' ∧ Keep (fun k => k = p) wx w') := fun wx vx hx => by
    have := tint w0 wx p t vx hx
    rw [g1] at this
    exact this
  have c2 : Hid (∀ wx vx, TkR w0 wx p t1 vx → Calls Tryd.prog 34 #[ptr p] wx fun e w' => e = .returned (nu v2) ∧ ∃ v', TkR w0 w' p t2 v' ∧ Keep (fun k => k = p) wx w') := fun wx vx hx => by
    have := tint w0 wx p t1 vx hx
    rw [g2] at this
    exact this
  have c3 : Hid (∀ wx vx, TkR w0 wx p t2 vx → Calls Tryd.prog 34 #[ptr p] wx fun e w' => e = .returned (nu v3) ∧ ∃ v', TkR w0 w' p t3 v' ∧ Keep (fun k => k = p) wx w') := fun wx vx hx => by
    have := tint w0 wx p t2 vx hx
    rw [g3] at this
    exact this
  have c4 : Hid (∀ wx vx, TkR w0 wx p t3 vx → Calls Tryd.prog 34 #[ptr p] wx fun e w' => e = .returned (nu v4) ∧ ∃ v', TkR w0 w' p t4 v' ∧ Keep (fun k => k = p) wx w') := fun wx vx hx => by
    have := tint w0 wx p t3 vx hx
    rw [g4] at this
    exact this
  have c5 : Hid (∀ wx vx, TkR w0 wx p t4 vx → Calls Tryd.prog 34 #[ptr p] wx fun e w' => e = .returned (nu v5) ∧ ∃ v', TkR w0 w' p t5 v' ∧ Keep (fun k => k = p) wx w') := fun wx vx hx => by
    have := tint w0 wx p t4 vx hx
    rw [g5] at this
    exact this
  have c6 : Hid (∀ wx vx, TkR w0 wx p t5 vx → Calls Tryd.prog 52 #[ptr p] wx fun e w' => e = .returned (.string (tx v6)) ∧ ∃ v', TkR w0 w' p t6 v' ∧ Keep (fun k => k = p) wx w') := fun wx vx hx => by
    have := ttext w0 wx p t5 vx hx
    rw [g6] at this
    exact this
  have c7 : Hid (∀ wx vx, TkR w0 wx p t6 vx → Calls Tryd.prog 52 #[ptr p] wx fun e w' => e = .returned (.string (tx v7)) ∧ ∃ v', TkR w0 w' p t7 v' ∧ Keep (fun k => k = p) wx w') := fun wx vx hx => by
    have := ttext w0 wx p t6 vx hx
    rw [g7] at this
    exact this
  have c8 : Hid (∀ wx vx, TkR w0 wx p t7 vx → Calls Tryd.prog 32 #[ptr p] wx fun e w' => e = .returned (.int .u64 (v8 : Int)) ∧ ∃ v', TkR w0 w' p t8 v' ∧ Keep (fun k => k = p) wx w') := fun wx vx hx => by
    have := tnumber w0 wx p t7 vx hx
    rw [g8] at this
    exact this
  have c9 : Hid (∀ wx vx, TkR w0 wx p t8 vx → Calls Tryd.prog 34 #[ptr p] wx fun e w' => e = .returned (nu v9) ∧ ∃ v', TkR w0 w' p t9 v' ∧ Keep (fun k => k = p) wx w') := fun wx vx hx => by
    have := tint w0 wx p t8 vx hx
    rw [g9] at this
    exact this
  have c10 : Hid (∀ wx vx, TkR w0 wx p t9 vx → Calls Tryd.prog 34 #[ptr p] wx fun e w' => e = .returned (nu v10) ∧ ∃ v', TkR w0 w' p t10 v' ∧ Keep (fun k => k = p) wx w') := fun wx vx hx => by
    have := tint w0 wx p t9 vx hx
    rw [g10] at this
    exact this
  have c11 : Hid (∀ wx vx, TkR w0 wx p t10 vx → Calls Tryd.prog 34 #[ptr p] wx fun e w' => e = .returned (nu v11) ∧ ∃ v', TkR w0 w' p t11 v' ∧ Keep (fun k => k = p) wx w') := fun wx vx hx => by
    have := tint w0 wx p t10 vx hx
    rw [g11] at this
    exact this
  have c12 : Hid (∀ wx vx, TkR w0 wx p t11 vx → Calls Tryd.prog 34 #[ptr p] wx fun e w' => e = .returned (nu v12) ∧ ∃ v', TkR w0 w' p t12 v' ∧ Keep (fun k => k = p) wx w') := fun wx vx hx => by
    have := tint w0 wx p t11 vx hx
    rw [g12] at this
    exact this
  have hT : Hid (bornT t = (⟨v1, v2, v3, v4, v5, v6, v7, (v8 : Int), v9, v10, v11, v12⟩, t12)) := bornT_eq t g1 g2 g3 g4 g5 g6 g7 g8 g9 g10 g11 g12
  clear g1 g2 g3 g4 g5 g6 g7 g8 g9 g10 g11 g12 h h0b
  obtain ⟨f6, hf6⟩ : ∃ f, tx v6 = f := ⟨_, rfl⟩
  obtain ⟨f7, hf7⟩ : ∃ f, tx v7 = f := ⟨_, rfl⟩
  rw [hf6] at c6
  rw [hf7] at c7
  have HF6 := Hid.mk' hf6
  have HF7 := Hid.mk' hf7
  clear hf6 hf7
  have HZ : Hid (Sn.zero.arr = #[nu 0, nu 0, nu 0, nu 0, nu 0, .string ⟨#[]⟩, .string ⟨#[]⟩, .int .u64 0, nu 0, nu 0, nu 0, nu 0]) := rfl
  rw [HZ.out] at hBn
  have HN0 := Hid.mk' hBn
  clear hBn
  go_enter Tryd.func33, Tryd.ntmps33
  go_wp2_with fail
  refine (c1.out _ _ HN0.out.tk).mono ?_
  rintro e x1 ⟨rfl, y1, ht1, hk1⟩
  have hM1 := HN0.out.call ht1 hk1
  obtain ⟨a1, b1⟩ := hM1.at 0 (nu 0) rfl
  have HN1 := Hid.mk' (hM1.set 0 (nu v1) (ys := #[nu v1, nu 0, nu 0, nu 0, nu 0, .string ⟨#[]⟩, .string ⟨#[]⟩, .int .u64 0, nu 0, nu 0, nu 0, nu 0]) rfl)
  clear ht1 hk1 hM1 c1
  go_wp2_with fail
  refine (c2.out _ _ HN1.out.tk).mono ?_
  rintro e x2 ⟨rfl, y2, ht2, hk2⟩
  have hM2 := HN1.out.call ht2 hk2
  obtain ⟨a2, b2⟩ := hM2.at 1 (nu 0) rfl
  have HN2 := Hid.mk' (hM2.set 1 (nu v2) (ys := #[nu v1, nu v2, nu 0, nu 0, nu 0, .string ⟨#[]⟩, .string ⟨#[]⟩, .int .u64 0, nu 0, nu 0, nu 0, nu 0]) rfl)
  clear ht2 hk2 hM2 c2 a1 b1
  go_wp2_with fail
  refine (c3.out _ _ HN2.out.tk).mono ?_
  rintro e x3 ⟨rfl, y3, ht3, hk3⟩
  have hM3 := HN2.out.call ht3 hk3
  obtain ⟨a3, b3⟩ := hM3.at 2 (nu 0) rfl
  have HN3 := Hid.mk' (hM3.set 2 (nu v3) (ys := #[nu v1, nu v2, nu v3, nu 0, nu 0, .string ⟨#[]⟩, .string ⟨#[]⟩, .int .u64 0, nu 0, nu 0, nu 0, nu 0]) rfl)
  clear ht3 hk3 hM3 c3 a2 b2
  go_wp2_with fail
  refine (c4.out _ _ HN3.out.tk).mono ?_
  rintro e x4 ⟨rfl, y4, ht4, hk4⟩
  have hM4 := HN3.out.call ht4 hk4
  obtain ⟨a4, b4⟩ := hM4.at 3 (nu 0) rfl
  have HN4 := Hid.mk' (hM4.set 3 (nu v4) (ys := #[nu v1, nu v2, nu v3, nu v4, nu 0, .string ⟨#[]⟩, .string ⟨#[]⟩, .int .u64 0, nu 0, nu 0, nu 0, nu 0]) rfl)
  clear ht4 hk4 hM4 c4 a3 b3
  go_wp2_with fail
  refine (c5.out _ _ HN4.out.tk).mono ?_
  rintro e x5 ⟨rfl, y5, ht5, hk5⟩
  have hM5 := HN4.out.call ht5 hk5
  obtain ⟨a5, b5⟩ := hM5.at 4 (nu 0) rfl
  have HN5 := Hid.mk' (hM5.set 4 (nu v5) (ys := #[nu v1, nu v2, nu v3, nu v4, nu v5, .string ⟨#[]⟩, .string ⟨#[]⟩, .int .u64 0, nu 0, nu 0, nu 0, nu 0]) rfl)
  clear ht5 hk5 hM5 c5 a4 b4
  go_wp2_with fail
  refine (c6.out _ _ HN5.out.tk).mono ?_
  rintro e x6 ⟨rfl, y6, ht6, hk6⟩
  have hM6 := HN5.out.call ht6 hk6
  obtain ⟨a6, b6⟩ := hM6.at 5 (.string ⟨#[]⟩) rfl
  have HN6 := Hid.mk' (hM6.set 5 (.string f6) (ys := #[nu v1, nu v2, nu v3, nu v4, nu v5, .string f6, .string ⟨#[]⟩, .int .u64 0, nu 0, nu 0, nu 0, nu 0]) rfl)
  clear ht6 hk6 hM6 c6 a5 b5
  go_wp2_with fail
  refine (c7.out _ _ HN6.out.tk).mono ?_
  rintro e x7 ⟨rfl, y7, ht7, hk7⟩
  have hM7 := HN6.out.call ht7 hk7
  obtain ⟨a7, b7⟩ := hM7.at 6 (.string ⟨#[]⟩) rfl
  have HN7 := Hid.mk' (hM7.set 6 (.string f7) (ys := #[nu v1, nu v2, nu v3, nu v4, nu v5, .string f6, .string f7, .int .u64 0, nu 0, nu 0, nu 0, nu 0]) rfl)
  clear ht7 hk7 hM7 c7 a6 b6
  go_wp2_with fail
  refine (c8.out _ _ HN7.out.tk).mono ?_
  rintro e x8 ⟨rfl, y8, ht8, hk8⟩
  have hM8 := HN7.out.call ht8 hk8
  obtain ⟨a8, b8⟩ := hM8.at 7 (.int .u64 0) rfl
  have HN8 := Hid.mk' (hM8.set 7 (.int .u64 (v8 : Int)) (ys := #[nu v1, nu v2, nu v3, nu v4, nu v5, .string f6, .string f7, .int .u64 (v8 : Int), nu 0, nu 0, nu 0, nu 0]) rfl)
  clear ht8 hk8 hM8 c8 a7 b7
  go_wp2_with fail
  refine (c9.out _ _ HN8.out.tk).mono ?_
  rintro e x9 ⟨rfl, y9, ht9, hk9⟩
  have hM9 := HN8.out.call ht9 hk9
  obtain ⟨a9, b9⟩ := hM9.at 8 (nu 0) rfl
  have HN9 := Hid.mk' (hM9.set 8 (nu v9) (ys := #[nu v1, nu v2, nu v3, nu v4, nu v5, .string f6, .string f7, .int .u64 (v8 : Int), nu v9, nu 0, nu 0, nu 0]) rfl)
  clear ht9 hk9 hM9 c9 a8 b8
  go_wp2_with fail
  refine (c10.out _ _ HN9.out.tk).mono ?_
  rintro e x10 ⟨rfl, y10, ht10, hk10⟩
  have hM10 := HN9.out.call ht10 hk10
  obtain ⟨a10, b10⟩ := hM10.at 9 (nu 0) rfl
  have HN10 := Hid.mk' (hM10.set 9 (nu v10) (ys := #[nu v1, nu v2, nu v3, nu v4, nu v5, .string f6, .string f7, .int .u64 (v8 : Int), nu v9, nu v10, nu 0, nu 0]) rfl)
  clear ht10 hk10 hM10 c10 a9 b9
  go_wp2_with fail
  refine (c11.out _ _ HN10.out.tk).mono ?_
  rintro e x11 ⟨rfl, y11, ht11, hk11⟩
  have hM11 := HN10.out.call ht11 hk11
  obtain ⟨a11, b11⟩ := hM11.at 10 (nu 0) rfl
  have HN11 := Hid.mk' (hM11.set 10 (nu v11) (ys := #[nu v1, nu v2, nu v3, nu v4, nu v5, .string f6, .string f7, .int .u64 (v8 : Int), nu v9, nu v10, nu v11, nu 0]) rfl)
  clear ht11 hk11 hM11 c11 a10 b10
  go_wp2_with fail
  refine (c12.out _ _ HN11.out.tk).mono ?_
  rintro e x12 ⟨rfl, y12, ht12, hk12⟩
  have hM12 := HN11.out.call ht12 hk12
  obtain ⟨a12, b12⟩ := hM12.at 11 (nu 0) rfl
  have HN12 := Hid.mk' (hM12.set 11 (nu v12) (ys := #[nu v1, nu v2, nu v3, nu v4, nu v5, .string f6, .string f7, .int .u64 (v8 : Int), nu v9, nu v10, nu v11, nu v12]) rfl)
  clear ht12 hk12 hM12 c12 a11 b11
  have r := HN12.out
  have s0 := (r.at 0 (nu v1) rfl).1
  have s1 := (r.at 1 (nu v2) rfl).1
  have s2 := (r.at 2 (nu v3) rfl).1
  have s3 := (r.at 3 (nu v4) rfl).1
  have s4 := (r.at 4 (nu v5) rfl).1
  have s5 := (r.at 5 (.string f6) rfl).1
  have s6 := (r.at 6 (.string f7) rfl).1
  have s7 := (r.at 7 (.int .u64 (v8 : Int)) rfl).1
  have s8 := (r.at 8 (nu v9) rfl).1
  have s9 := (r.at 9 (nu v10) rfl).1
  have s10 := (r.at 10 (nu v11) rfl).1
  have s11 := (r.at 11 (nu v12) rfl).1
  have HRB := Hid.mk' r.rblk
  rw [HZ.out] at HRB
  have z0 := cell_of (j := 0) HRB.out rfl
  have zf0 := r.frz 0
  have z1 := cell_of (j := 1) HRB.out rfl
  have zf1 := r.frz 1
  have z2 := cell_of (j := 2) HRB.out rfl
  have zf2 := r.frz 2
  have z3 := cell_of (j := 3) HRB.out rfl
  have zf3 := r.frz 3
  have z4 := cell_of (j := 4) HRB.out rfl
  have zf4 := r.frz 4
  have z5 := cell_of (j := 5) HRB.out rfl
  have zf5 := r.frz 5
  have z6 := cell_of (j := 6) HRB.out rfl
  have zf6 := r.frz 6
  have z7 := cell_of (j := 7) HRB.out rfl
  have zf7 := r.frz 7
  have z8 := cell_of (j := 8) HRB.out rfl
  have zf8 := r.frz 8
  have z9 := cell_of (j := 9) HRB.out rfl
  have zf9 := r.frz 9
  have z10 := cell_of (j := 10) HRB.out rfl
  have zf10 := r.frz 10
  have z11 := cell_of (j := 11) HRB.out rfl
  have zf11 := r.frz 11
  have HKE := Hid.mk' r.K
  have HTK := Hid.mk' r.tk
  have hn1 := r.n1
  clear r
  go_wp2
  have hf6 := HF6.out
  have hf7 := HF7.out
  subst hf6 hf7
  have HRZ : Hid ((x12.setCell ⟨w.heap.size + 1, 11, none⟩ (nu v12)).heap[w.heap.size]? = some (.cells Sn.zero.arr 27 (0, 0))) := by
    show _ = _
    rw [HZ.out]
    exact HRB.out
  refine bodyPost_ret (results_cell_row rfl _ _ w.heap.size _ _ _ _ rfl (putN_heap (z := Sn.zero) ⟨v1, v2, v3, v4, v5, v6, v7, (v8 : Int), v9, v10, v11, v12⟩ HRZ.out) Tryd.underlying27 rfl (sizeN _)) rfl ?_
  rw [hT.out]
  refine ⟨rfl, y12, ?_, putN_keep ⟨v1, v2, v3, v4, v5, v6, v7, (v8 : Int), v9, v10, v11, v12⟩ HKE.out (.inr (Nat.le_refl _))⟩
  exact HTK.out.keep (putN_keep (G := fun k => k = w.heap.size) ⟨v1, v2, v3, v4, v5, v6, v7, (v8 : Int), v9, v10, v11, v12⟩ (Keep.refl _ _) (.inl rfl)) (fun e => hn1 e.symm) (fun k hk e => by omega)
end Ev
end Go.Proofs.YtnllplholfhbdaaDoor
