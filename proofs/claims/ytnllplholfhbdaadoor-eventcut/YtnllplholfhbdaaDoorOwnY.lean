import Derived.Test.YtnllplholfhbdaaDoorOwn
import Derived.Test.YtnllplholfhbdaaDoorFoot
import Derived.Test.YtnllplholfhbdaaDoorRowB
import Derived.Deep.CutBlock
import Derived.Deep.RegionWith
/- Rows of bytes that were handed out: what stores and appends leave of them. -/
namespace Go.Proofs.YtnllplholfhbdaaDoor
set_option linter.ambiguousOpen false
open Go.RowKit
namespace Pk
open Sm Ft
set_option linter.unusedSimpArgs false
set_option linter.unusedVariables false

/-- A store of one cell into an owned row. -/
theorem own_setS {w : World} {base g cap n size : Nat} {e : TypeId} {xs : List Value} (h : w.ownsRow base e size (.slice (some ⟨g, 0, none⟩) n cap) n xs) (i : Nat) (u : Value) :
    (w.setCell ⟨g, i, none⟩ u).ownsRow base e size (.slice (some ⟨g, 0, none⟩) n cap) n (xs.set i u) := by
  rcases h.2 with ⟨hv, _⟩ | ⟨g', cap', cur, hv, hbg, hg, hnc, hcm, hcs, htake⟩
  · simp at hv
  · simp only [Value.slice.injEq, Option.some.injEq, Addr.mk.injEq, and_true, true_and] at hv
    obtain ⟨rfl, rfl⟩ := hv
    refine ⟨by simpa using h.1, .inr ⟨g, cap, cur.setIfInBounds i u, rfl, hbg, ?_, hnc, hcm, by simpa using hcs, ?_⟩⟩
    · have hlt : g < w.heap.size := (Array.getElem?_eq_some_iff.1 hg).1
      simp [World.setCell, Array.getElem?_modify, hg]
    · rw [← htake]
      simp [List.take_set]

theorem own_cellS {w : World} {base g cap n size : Nat} {e : TypeId} {xs : List Value} (h : w.ownsRow base e size (.slice (some ⟨g, 0, none⟩) n cap) n xs) (i : Nat) (hi : i < n * size) :
    (∃ u, xs[i]? = some u ∧ w.cell? ⟨g, i, none⟩ = some u) ∧ w.frozen? ⟨g, i, none⟩ = false := by
  rcases h.2 with ⟨hv, _⟩ | ⟨g', cap', cur, hv, hbg, hg, hnc, hcm, hcs, htake⟩
  · simp at hv
  · simp only [Value.slice.injEq, Option.some.injEq, Addr.mk.injEq, and_true, true_and] at hv
    obtain ⟨rfl, rfl⟩ := hv
    have hlen : i < cur.size := by
      rw [hcs]
      exact Nat.lt_of_lt_of_le hi (Nat.mul_le_mul_right _ hnc)
    refine ⟨⟨cur[i], ?_, ?_⟩, ?_⟩
    · rw [← htake, List.getElem?_take_of_lt hi]
      simp [hlen]
    · simp [World.cell?, hg, hlen]
    · simp [World.frozen?, hg]

theorem own_belowS {w w' : World} {base : Nat} {e : TypeId} {size : Nat} {v : Value} {n : Nat} {xs : List Value} (h : w.ownsRow base e size v n xs) (hb : Below w.heap.size w w') : w'.ownsRow base e size v n xs := own_keptB h hb

/-- Marks. -/
def mkI (k i : Nat) : Int := (37 * ((k : Int) + 1) + (i : Int)) % 256

def marksY (k n : Nat) : List Value := (List.range n).map (fun i => (Value.int .u8 (mkI k i)))

theorem marksY_len (k n : Nat) : (marksY k n).length = n := by simp [marksY]

theorem marksY_succ (k n : Nat) : marksY k (n + 1) = marksY k n ++ [(Value.int .u8 (mkI k n))] := by simp [marksY, List.range_succ]

theorem marksY_at (k n i : Nat) (h : i < n) : (marksY k n)[i]? = some ((Value.int .u8 (mkI k i))) := by simp [marksY, h]

/-- The list of lists lies at block L; each list is owned; its cells are told by f. -/
structure LsR (w : World) (base L : Nat) (vs : List Value) (ln : Nat → Nat) (f : Nat → List Value) : Prop where
  own : ∀ l (h : l < vs.length), w.ownsRow base 5 1 vs[l] (ln l) (f l)
  cell : ∀ l (h : l < vs.length), w.cell? ⟨L, l, none⟩ = some vs[l]
  lt : L < w.heap.size
  le : base ≤ w.heap.size

theorem LsR.below {w w' : World} {base L : Nat} {vs : List Value} {ln : Nat → Nat} {f : Nat → List Value} (h : LsR w base L vs ln f) (hb : Below w.heap.size w w') : LsR w' base L vs ln f :=
  ⟨fun l hl => own_belowS (h.own l hl) hb, fun l hl => (hb.cell (p := ⟨L, l, none⟩) h.lt).trans (h.cell l hl), Nat.lt_of_lt_of_le h.lt hb.size, Nat.le_trans h.le hb.size⟩

/-- Lists in blocks of their own, none of them the list of lists'. -/
structure ApartR (L : Nat) (vs : List Value) : Prop where
  sep : ∀ l m (h : l < vs.length) (h' : m < vs.length), l ≠ m → Nm.Sep vs[l] vs[m]
  off : ∀ l (h : l < vs.length), vs[l].ownBlock ≠ some L

/-- The blocks of the lists. -/
def Wb (vs : List Value) : Nat → Prop := fun b => ∃ l, ∃ h : l < vs.length, vs[l].ownBlock = some b

theorem LsR.set {w : World} {base L : Nat} {vs : List Value} {ln : Nat → Nat} {f : Nat → List Value} (h : LsR w base L vs ln f) (ha : ApartR L vs) (k i g cap : Nat) (hk : k < vs.length) (hv : vs[k] = .slice (some ⟨g, 0, none⟩) (ln k) cap) (u : Value) :
    LsR (w.setCell ⟨g, i, none⟩ u) base L vs ln (fun l => if l = k then (f k).set i u else f l) := by
  have hgb : vs[k].ownBlock = some g := by rw [hv]; rfl
  refine ⟨fun l hl => ?_, fun l hl => ?_, by simpa [World.setCell] using h.lt, by simpa [World.setCell] using h.le⟩
  · by_cases hlk : l = k
    · subst hlk
      simp only [if_true]
      have := h.own l hl
      rw [hv] at this ⊢
      exact own_setS this i u
    · simp only [hlk, if_false]
      exact Nm.own_setOther (h.own l hl) _ u (fun e => ha.sep l k hl hk hlk g e hgb)
  · have hne : L ≠ g := fun e => ha.off k hk (by rw [hgb, e])
    rw [← h.cell l hl]
    exact World.cell?_of_block (w := w) (Below.heap_setCell _ _ _ _ hne)

theorem take_set1 (xs : List Value) (i : Nat) (u : Value) (h : i < xs.length) : (xs.set i u).take (i + 1) = xs.take i ++ [u] := by
  rw [List.take_set, List.take_succ_eq_append_getElem h]
  rw [List.set_append_right _ _ (by rw [List.length_take]; omega)]
  have : i - (List.take i xs).length = 0 := by rw [List.length_take]; omega
  rw [this]; rfl

theorem store_factsR {w w5 : World} {base L : Nat} {vs : List Value} {ln : Nat → Nat} {f : Nat → List Value} {k i g cap : Nat} (h : LsR w base L vs ln f) (hk : k < vs.length) (hv : vs[k] = .slice (some ⟨g, 0, none⟩) (ln k) cap) (hi : i < ln k) (hb : Below w.heap.size w w5) :
    ∃ u, w5.cell? ⟨g, i, none⟩ = some u ∧ w5.frozen? ⟨g, i, none⟩ = false ∧ w5.cell? ⟨L, k, none⟩ = some (.slice (some ⟨g, 0, none⟩) (ln k) cap) := by
  have h5 := h.below hb
  have ho := h5.own k hk
  rw [hv] at ho
  obtain ⟨⟨u, _, hcu⟩, hfz⟩ := own_cellS ho i (by omega)
  exact ⟨u, hcu, hfz, by rw [← hv]; exact h5.cell k hk⟩

theorem store_stepR {w0 w w5 : World} {base L : Nat} {vs : List Value} {ln : Nat → Nat} {f : Nat → List Value} {k i g cap : Nat} (h : LsR w base L vs ln f) (ha : ApartR L vs) (hk : k < vs.length) (hv : vs[k] = .slice (some ⟨g, 0, none⟩) (ln k) cap) (hi : i < ln k) (hb : Below w.heap.size w w5)
    (hf : ∀ l, l < k → f l = marksY l (ln l)) (hfk : (f k).take i = marksY k i) (hb0 : Keep (Wb vs) w0 w) :
    ∃ f' : Nat → List Value, Hid (LsR (w5.setCell ⟨g, i, none⟩ ((Value.int .u8 (mkI k i)))) base L vs ln f') ∧ Hid (∀ l, l < k → f' l = marksY l (ln l)) ∧ Hid ((f' k).take (i + 1) = marksY k (i + 1)) ∧ Hid (Keep (Wb vs) w0 (w5.setCell ⟨g, i, none⟩ ((Value.int .u8 (mkI k i))))) := by
  have h5 := h.below hb
  have hlen : (f k).length = ln k := by have := (h.own k hk).1; omega
  have hW : Wb vs g := ⟨k, hk, by rw [hv]; rfl⟩
  have hk5 : Keep (Wb vs) w0 w5 := hb0.trans (Keep.of_below (F := fun _ => False) hb) (fun _ _ hf => hf.elim)
  refine ⟨_, h5.set ha k i g cap hk hv ((Value.int .u8 (mkI k i))), fun l hl => ?_, ?_, Keep.setCell (p := ⟨g, i, none⟩) hk5 (.inl hW) _⟩
  · have : l ≠ k := by omega
    simp only [this, if_false]; exact hf l hl
  · show (if k = k then (f k).set i ((Value.int .u8 (mkI k i))) else f k).take (i + 1) = marksY k (i + 1)
    rw [if_pos rfl, take_set1 _ _ _ (by omega), hfk, marksY_succ]

theorem sep_grewS {w w' : World} {base : Nat} {e : TypeId} {size : Nat} {v v' : Value} {n : Nat} {xs : List Value} {m : Nat} {news : List Value} (h : Nm.Grew w w' base e size v v' n xs m news) {x : Value} {bx : Nat} {ex : TypeId} {sx nx : Nat} {ys : List Value} (hx : w.ownsRow bx ex sx x nx ys) (hs : Nm.Sep v x) : Nm.Sep v' x := by
  rcases h.place with hp | ⟨b, hp, hb⟩
  · intro c hc; rw [hp] at hc; exact hs c hc
  · intro c hc hxc
    rw [hp] at hc
    have := (hx.lt c hxc).2
    simp only [Option.some.injEq] at hc
    omega

theorem kept_sepS {w w' : World} {v x : Value} {bx : Nat} {ex : TypeId} {sx nx : Nat} {ys : List Value} (hg : w.grownBy w' v.ownBlock) (hx : w.ownsRow bx ex sx x nx ys) (hs : Nm.Sep v x) : w'.ownsRow bx ex sx x nx ys := by
  refine hx.kept hg ?_
  cases hxo : x.ownBlock with
  | none => exact Or.inl rfl
  | some c => right; intro e; exact hs c e.symm hxo

theorem LsR.grown {w w' : World} {base L : Nat} {vs : List Value} {ln : Nat → Nat} {f : Nat → List Value} {v : Value} (h : LsR w base L vs ln f) (hg : w.grownBy w' v.ownBlock) (hoff : v.ownBlock ≠ some L) (hown : ∀ l (hl : l < vs.length), w'.ownsRow base 5 1 vs[l] (ln l) (f l)) : LsR w' base L vs ln f :=
  ⟨hown, fun l hl => (World.cell?_of_block (a := ⟨L, l, none⟩) (hg.block L h.lt (fun e => hoff e.symm))).trans (h.cell l hl), Nat.lt_of_lt_of_le h.lt hg.size, Nat.le_trans h.le hg.size⟩

/-- The lists that were appended to. -/
structure GsR (w0 w : World) (base L : Nat) (vs : List Value) (ln : Nat → Nat) (gl : List Value) (gv : Value) : Prop where
  ls : LsR w base L vs ln (fun l => marksY l (ln l))
  gown : ∀ l (h : l < gl.length), w.ownsRow base 5 1 gl[l] (ln l + 64) (marksY l (ln l + 64))
  row : w.ownsRow base 30 1 gv gl.length gl
  sepv : ∀ l (h : l < vs.length), Nm.Sep gv vs[l]
  sepg : ∀ l (h : l < gl.length), Nm.Sep gv gl[l]
  sepo : ∀ l (h : l < gl.length) m (h' : m < vs.length), l ≠ m → Nm.Sep gl[l] vs[m]
  off : gv.ownBlock ≠ some L
  gpl : ∀ b, gv.ownBlock = some b → w0.heap.size ≤ b

theorem GsR.below {w0 w w' : World} {base L : Nat} {vs : List Value} {ln : Nat → Nat} {gl : List Value} {gv : Value} (h : GsR w0 w base L vs ln gl gv) (hb : Below w.heap.size w w') : GsR w0 w' base L vs ln gl gv :=
  ⟨h.ls.below hb, fun l hl => own_belowS (h.gown l hl) hb, own_belowS h.row hb, h.sepv, h.sepg, h.sepo, h.off, h.gpl⟩

/-- The list that is being appended to. -/
structure CurR (w0 w : World) (base L : Nat) (vs : List Value) (ln : Nat → Nat) (gl : List Value) (gv : Value) (i : Nat) (c : Value) : Prop where
  gs : GsR w0 w base L vs ln gl gv
  own : w.ownsRow base 5 1 c (ln gl.length + i) (marksY gl.length (ln gl.length + i))
  sepv : ∀ m (h : m < vs.length), gl.length ≠ m → Nm.Sep c vs[m]
  sepg : ∀ l (h : l < gl.length), Nm.Sep c gl[l]
  seps : Nm.Sep c gv
  off : c.ownBlock ≠ some L
  cpl : ∀ b, c.ownBlock = some b → Wb vs b ∨ w0.heap.size ≤ b

theorem CurR.below {w0 w w' : World} {base L : Nat} {vs : List Value} {ln : Nat → Nat} {gl : List Value} {gv : Value} {i : Nat} {c : Value} (h : CurR w0 w base L vs ln gl gv i c) (hb : Below w.heap.size w w') : CurR w0 w' base L vs ln gl gv i c :=
  ⟨h.gs.below hb, own_belowS h.own hb, h.sepv, h.sepg, h.seps, h.off, h.cpl⟩

theorem CurR.start {w0 w : World} {base L : Nat} {vs : List Value} {ln : Nat → Nat} {gl : List Value} {gv : Value} (h : GsR w0 w base L vs ln gl gv) (ha : ApartR L vs) (hk : gl.length < vs.length) : CurR w0 w base L vs ln gl gv 0 vs[gl.length] :=
  ⟨h, h.ls.own _ hk, fun m hm hne => ha.sep _ m hk hm hne, fun l hl => (h.sepo l hl _ hk (by omega)).symm, (h.sepv _ hk).symm, ha.off _ hk, fun b hb => .inl ⟨_, hk, hb⟩⟩

theorem CurR.step {w0 w w' : World} {base L : Nat} {vs : List Value} {ln : Nat → Nat} {gl : List Value} {gv : Value} {i : Nat} {c c' : Value} (h : CurR w0 w base L vs ln gl gv i c) (h0 : w0.heap.size ≤ w.heap.size)
    (hg : Nm.Grew w w' base 5 1 c c' (ln gl.length + i) (marksY gl.length (ln gl.length + i)) 1 ([(Value.int .u8 (mkI gl.length (ln gl.length + i)))])) : CurR w0 w' base L vs ln gl gv (i + 1) c' := by
  have hls : LsR w' base L vs ln (fun l => marksY l (ln l)) := h.gs.ls.grown hg.grown h.off (fun l hl => by
    by_cases hlk : gl.length = l
    · subst hlk
      exact hg.keep _ _ _ _ (h.gs.ls.own _ hl) (by omega)
    · exact kept_sepS hg.grown (h.gs.ls.own l hl) (h.sepv l hl hlk))
  refine ⟨⟨hls, fun l hl => kept_sepS hg.grown (h.gs.gown l hl) (h.sepg l hl), kept_sepS hg.grown h.gs.row h.seps, h.gs.sepv, h.gs.sepg, h.gs.sepo, h.gs.off, h.gs.gpl⟩, ?_, ?_, ?_, ?_, ?_, ?_⟩
  · have := hg.own
    rw [← marksY_succ] at this
    exact this
  · intro m hm hne; exact sep_grewS hg (h.gs.ls.own m hm) (h.sepv m hm hne)
  · intro l hl; exact sep_grewS hg (h.gs.gown l hl) (h.sepg l hl)
  · exact sep_grewS hg h.gs.row h.seps
  · rcases hg.place with hp | ⟨b, hp, hb⟩
    · rw [hp]; exact h.off
    · rw [hp]; intro e; simp only [Option.some.injEq] at e; have := h.gs.ls.lt; omega
  · intro b hb
    rcases hg.place with hp | ⟨c, hp, hc⟩
    · rw [hp] at hb; exact h.cpl b hb
    · rw [hp, Option.some.injEq] at hb; right; omega

theorem GsR.step {w0 w w' : World} {base L : Nat} {vs : List Value} {ln : Nat → Nat} {gl : List Value} {gv gv' : Value} {c : Value} (h : CurR w0 w base L vs ln gl gv 64 c) (h0 : w0.heap.size ≤ w.heap.size)
    (hg : Nm.Grew w w' base 30 1 gv gv' gl.length gl 1 [c]) : GsR w0 w' base L vs ln (gl ++ [c]) gv' := by
  have hls : LsR w' base L vs ln (fun l => marksY l (ln l)) := h.gs.ls.grown hg.grown h.gs.off (fun l hl => kept_sepS hg.grown (h.gs.ls.own l hl) (h.gs.sepv l hl))
  have hget : ∀ l (hl : l < (gl ++ [c]).length), (∃ hl' : l < gl.length, (gl ++ [c])[l] = gl[l]) ∨ (l = gl.length ∧ (gl ++ [c])[l] = c) := by
    intro l hl
    rcases Nat.lt_or_ge l gl.length with h' | h'
    · left; exact ⟨h', List.getElem_append_left h'⟩
    · right
      have : l = gl.length := by simp at hl; omega
      subst this
      exact ⟨rfl, by simp⟩
  refine ⟨hls, ?_, ?_, ?_, ?_, ?_, ?_, ?_⟩
  · intro l hl
    rcases hget l hl with ⟨hl', e⟩ | ⟨rfl, e⟩
    · rw [e]; exact kept_sepS hg.grown (h.gs.gown l hl') (h.gs.sepg l hl')
    · rw [e]; exact kept_sepS hg.grown h.own h.seps.symm
  · have := hg.own
    simpa using this
  · intro l hl; exact sep_grewS hg (h.gs.ls.own l hl) (h.gs.sepv l hl)
  · intro l hl
    rcases hget l hl with ⟨hl', e⟩ | ⟨rfl, e⟩
    · rw [e]; exact sep_grewS hg (h.gs.gown l hl') (h.gs.sepg l hl')
    · rw [e]; exact sep_grewS hg h.own h.seps.symm
  · intro l hl m hm hne
    rcases hget l hl with ⟨hl', e⟩ | ⟨rfl, e⟩
    · rw [e]; exact h.gs.sepo l hl' m hm hne
    · rw [e]; exact h.sepv m hm hne
  · rcases hg.place with hp | ⟨b, hp, hb⟩
    · rw [hp]; exact h.gs.off
    · rw [hp]; intro e; simp only [Option.some.injEq] at e; have := h.gs.ls.lt; omega
  · intro b hb
    rcases hg.place with hp | ⟨c, hp, hc⟩
    · rw [hp] at hb; exact h.gs.gpl b hb
    · rw [hp, Option.some.injEq] at hb; omega

theorem info_rowsY : (Tryd.prog.info? 30).map (fun i => (i.zero, i.size, i.bytes)) = some (some (.slice none 0 0), 1, 24) := by kernel_rfl
end Pk
end Go.Proofs.YtnllplholfhbdaaDoor
