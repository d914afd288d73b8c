/- ApartInts answers true of lists of ints that lie in blocks of their own, and turns nothing else. -/
import Derived.Test.YtbkcpjgaoncioaaArnA
import Derived.Deep.CutBlock
import Derived.Deep.RegionWith
namespace Go.Proofs.Ytbkcpjgaoncioaa
set_option linter.ambiguousOpen false
open Go.RowKit
namespace Wk
open An Ft
set_option linter.unusedSimpArgs false
set_option linter.unusedVariables false

/-- A store of one cell into an owned row. -/
theorem own_setS {w : World} {base g cap n size : Nat} {e : TypeId} {xs : List Value} (h : w.ownsRow base e size (.slice (some ⟨g, 0, none⟩) n cap) n xs) (i : Nat) (u : Value) :
    (w.setCell ⟨g, i, none⟩ u).ownsRow base e size (.slice (some ⟨g, 0, none⟩) n cap) n (xs.set i u) := by
  rcases h.2 with ⟨hv, _⟩ | ⟨g', cap', cur, hv, hbg, hg, hnc, hcm, hcs, htake⟩
  · simp at hv
  · simp only [Value.slice.injEq, Option.some.injEq, Addr.mk.injEq, and_true, true_and] at hv
    obtain ⟨rfl, rfl⟩ := hv
    refine ⟨by simpa using h.1, .inr ⟨g, cap, cur.setIfInBounds i u, rfl, hbg, ?_, hnc, hcm, by simpa using hcs, ?_⟩⟩
    · have hlt : g < w.heap.size := (Array.getElem?_eq_some_iff.1 hg).1
      simp [World.setCell, Array.getElem?_modify, hg]
    · rw [← htake]
      simp [List.take_set]

theorem own_cellS {w : World} {base g cap n size : Nat} {e : TypeId} {xs : List Value} (h : w.ownsRow base e size (.slice (some ⟨g, 0, none⟩) n cap) n xs) (i : Nat) (hi : i < n * size) :
    (∃ u, xs[i]? = some u ∧ w.cell? ⟨g, i, none⟩ = some u) ∧ w.frozen? ⟨g, i, none⟩ = false := by
  rcases h.2 with ⟨hv, _⟩ | ⟨g', cap', cur, hv, hbg, hg, hnc, hcm, hcs, htake⟩
  · simp at hv
  · simp only [Value.slice.injEq, Option.some.injEq, Addr.mk.injEq, and_true, true_and] at hv
    obtain ⟨rfl, rfl⟩ := hv
    have hlen : i < cur.size := by
      rw [hcs]
      exact Nat.lt_of_lt_of_le hi (Nat.mul_le_mul_right _ hnc)
    refine ⟨⟨cur[i], ?_, ?_⟩, ?_⟩
    · rw [← htake, List.getElem?_take_of_lt hi]
      simp [hlen]
    · simp [World.cell?, hg, hlen]
    · simp [World.frozen?, hg]

theorem own_belowS {w w' : World} {base : Nat} {e : TypeId} {size : Nat} {v : Value} {n : Nat} {xs : List Value} (h : w.ownsRow base e size v n xs) (hb : Below w.heap.size w w') : w'.ownsRow base e size v n xs := (Keep.of_below (F := fun _ => False) hb).own h (fun _ _ h => h)

/-- Marks. -/
def mkI (k i : Nat) : Int := -1000000 * ((k : Int) + 1) - (i : Int)

def marksY (k n : Nat) : List Value := (List.range n).map (fun i => (Value.int .i64 (mkI k i)))

theorem marksY_len (k n : Nat) : (marksY k n).length = n := by simp [marksY]

theorem marksY_succ (k n : Nat) : marksY k (n + 1) = marksY k n ++ [(Value.int .i64 (mkI k n))] := by simp [marksY, List.range_succ]

theorem marksY_at (k n i : Nat) (h : i < n) : (marksY k n)[i]? = some ((Value.int .i64 (mkI k i))) := by simp [marksY, h]

/-- The list of lists lies at block L; each list is owned; its cells are told by f. -/
structure LsR (w : World) (base L : Nat) (vs : List Value) (ln : Nat → Nat) (f : Nat → List Value) : Prop where
  own : ∀ l (h : l < vs.length), w.ownsRow base 3 1 vs[l] (ln l) (f l)
  cell : ∀ l (h : l < vs.length), w.cell? ⟨L, l, none⟩ = some vs[l]
  lt : L < w.heap.size
  le : base ≤ w.heap.size

theorem LsR.below {w w' : World} {base L : Nat} {vs : List Value} {ln : Nat → Nat} {f : Nat → List Value} (h : LsR w base L vs ln f) (hb : Below w.heap.size w w') : LsR w' base L vs ln f :=
  ⟨fun l hl => own_belowS (h.own l hl) hb, fun l hl => (hb.cell (p := ⟨L, l, none⟩) h.lt).trans (h.cell l hl), Nat.lt_of_lt_of_le h.lt hb.size, Nat.le_trans h.le hb.size⟩

/-- Lists in blocks of their own, none of them the list of lists'. -/
structure ApartR (L : Nat) (vs : List Value) : Prop where
  sep : ∀ l m (h : l < vs.length) (h' : m < vs.length), l ≠ m → Nm.Sep vs[l] vs[m]
  off : ∀ l (h : l < vs.length), vs[l].ownBlock ≠ some L

/-- The blocks of the lists. -/
def Wb (vs : List Value) : Nat → Prop := fun b => ∃ l, ∃ h : l < vs.length, vs[l].ownBlock = some b

theorem LsR.set {w : World} {base L : Nat} {vs : List Value} {ln : Nat → Nat} {f : Nat → List Value} (h : LsR w base L vs ln f) (ha : ApartR L vs) (k i g cap : Nat) (hk : k < vs.length) (hv : vs[k] = .slice (some ⟨g, 0, none⟩) (ln k) cap) (u : Value) :
    LsR (w.setCell ⟨g, i, none⟩ u) base L vs ln (fun l => if l = k then (f k).set i u else f l) := by
  have hgb : vs[k].ownBlock = some g := by rw [hv]; rfl
  refine ⟨fun l hl => ?_, fun l hl => ?_, by simpa [World.setCell] using h.lt, by simpa [World.setCell] using h.le⟩
  · by_cases hlk : l = k
    · subst hlk
      simp only [if_true]
      have := h.own l hl
      rw [hv] at this ⊢
      exact own_setS this i u
    · simp only [hlk, if_false]
      exact Nm.own_setOther (h.own l hl) _ u (fun e => ha.sep l k hl hk hlk g e hgb)
  · have hne : L ≠ g := fun e => ha.off k hk (by rw [hgb, e])
    rw [← h.cell l hl]
    exact World.cell?_of_block (w := w) (Below.heap_setCell _ _ _ _ hne)

theorem take_set1 (xs : List Value) (i : Nat) (u : Value) (h : i < xs.length) : (xs.set i u).take (i + 1) = xs.take i ++ [u] := by
  rw [List.take_set, List.take_succ_eq_append_getElem h]
  rw [List.set_append_right _ _ (by rw [List.length_take]; omega)]
  have : i - (List.take i xs).length = 0 := by rw [List.length_take]; omega
  rw [this]; rfl

theorem store_factsR {w w5 : World} {base L : Nat} {vs : List Value} {ln : Nat → Nat} {f : Nat → List Value} {k i g cap : Nat} (h : LsR w base L vs ln f) (hk : k < vs.length) (hv : vs[k] = .slice (some ⟨g, 0, none⟩) (ln k) cap) (hi : i < ln k) (hb : Below w.heap.size w w5) :
    ∃ u, w5.cell? ⟨g, i, none⟩ = some u ∧ w5.frozen? ⟨g, i, none⟩ = false ∧ w5.cell? ⟨L, k, none⟩ = some (.slice (some ⟨g, 0, none⟩) (ln k) cap) := by
  have h5 := h.below hb
  have ho := h5.own k hk
  rw [hv] at ho
  obtain ⟨⟨u, _, hcu⟩, hfz⟩ := own_cellS ho i (by omega)
  exact ⟨u, hcu, hfz, by rw [← hv]; exact h5.cell k hk⟩

theorem store_stepR {w0 w w5 : World} {base L : Nat} {vs : List Value} {ln : Nat → Nat} {f : Nat → List Value} {k i g cap : Nat} (h : LsR w base L vs ln f) (ha : ApartR L vs) (hk : k < vs.length) (hv : vs[k] = .slice (some ⟨g, 0, none⟩) (ln k) cap) (hi : i < ln k) (hb : Below w.heap.size w w5)
    (hf : ∀ l, l < k → f l = marksY l (ln l)) (hfk : (f k).take i = marksY k i) (hb0 : Keep (Wb vs) w0 w) :
    ∃ f' : Nat → List Value, Hid (LsR (w5.setCell ⟨g, i, none⟩ ((Value.int .i64 (mkI k i)))) base L vs ln f') ∧ Hid (∀ l, l < k → f' l = marksY l (ln l)) ∧ Hid ((f' k).take (i + 1) = marksY k (i + 1)) ∧ Hid (Keep (Wb vs) w0 (w5.setCell ⟨g, i, none⟩ ((Value.int .i64 (mkI k i))))) := by
  have h5 := h.below hb
  have hlen : (f k).length = ln k := by have := (h.own k hk).1; omega
  have hW : Wb vs g := ⟨k, hk, by rw [hv]; rfl⟩
  have hk5 : Keep (Wb vs) w0 w5 := hb0.trans (Keep.of_below (F := fun _ => False) hb) (fun _ _ hf => hf.elim)
  refine ⟨_, h5.set ha k i g cap hk hv ((Value.int .i64 (mkI k i))), fun l hl => ?_, ?_, Keep.setCell (p := ⟨g, i, none⟩) hk5 (.inl hW) _⟩
  · have : l ≠ k := by omega
    simp only [this, if_false]; exact hf l hl
  · show (if k = k then (f k).set i ((Value.int .i64 (mkI k i))) else f k).take (i + 1) = marksY k (i + 1)
    rw [if_pos rfl, take_set1 _ _ _ (by omega), hfk, marksY_succ]

theorem sep_grewS {w w' : World} {base : Nat} {e : TypeId} {size : Nat} {v v' : Value} {n : Nat} {xs : List Value} {m : Nat} {news : List Value} (h : Nm.Grew w w' base e size v v' n xs m news) {x : Value} {bx : Nat} {ex : TypeId} {sx nx : Nat} {ys : List Value} (hx : w.ownsRow bx ex sx x nx ys) (hs : Nm.Sep v x) : Nm.Sep v' x := by
  rcases h.place with hp | ⟨b, hp, hb⟩
  · intro c hc; rw [hp] at hc; exact hs c hc
  · intro c hc hxc
    rw [hp] at hc
    have := (hx.lt c hxc).2
    simp only [Option.some.injEq] at hc
    omega

theorem kept_sepS {w w' : World} {v x : Value} {bx : Nat} {ex : TypeId} {sx nx : Nat} {ys : List Value} (hg : w.grownBy w' v.ownBlock) (hx : w.ownsRow bx ex sx x nx ys) (hs : Nm.Sep v x) : w'.ownsRow bx ex sx x nx ys := by
  refine hx.kept hg ?_
  cases hxo : x.ownBlock with
  | none => exact Or.inl rfl
  | some c => right; intro e; exact hs c e.symm hxo

theorem LsR.grown {w w' : World} {base L : Nat} {vs : List Value} {ln : Nat → Nat} {f : Nat → List Value} {v : Value} (h : LsR w base L vs ln f) (hg : w.grownBy w' v.ownBlock) (hoff : v.ownBlock ≠ some L) (hown : ∀ l (hl : l < vs.length), w'.ownsRow base 3 1 vs[l] (ln l) (f l)) : LsR w' base L vs ln f :=
  ⟨hown, fun l hl => (World.cell?_of_block (a := ⟨L, l, none⟩) (hg.block L h.lt (fun e => hoff e.symm))).trans (h.cell l hl), Nat.lt_of_lt_of_le h.lt hg.size, Nat.le_trans h.le hg.size⟩

/-- The lists that were appended to. -/
structure GsR (w0 w : World) (base L : Nat) (vs : List Value) (ln : Nat → Nat) (gl : List Value) (gv : Value) : Prop where
  ls : LsR w base L vs ln (fun l => marksY l (ln l))
  gown : ∀ l (h : l < gl.length), w.ownsRow base 3 1 gl[l] (ln l + 64) (marksY l (ln l + 64))
  row : w.ownsRow base 35 1 gv gl.length gl
  sepv : ∀ l (h : l < vs.length), Nm.Sep gv vs[l]
  sepg : ∀ l (h : l < gl.length), Nm.Sep gv gl[l]
  sepo : ∀ l (h : l < gl.length) m (h' : m < vs.length), l ≠ m → Nm.Sep gl[l] vs[m]
  off : gv.ownBlock ≠ some L
  gpl : ∀ b, gv.ownBlock = some b → w0.heap.size ≤ b

theorem GsR.below {w0 w w' : World} {base L : Nat} {vs : List Value} {ln : Nat → Nat} {gl : List Value} {gv : Value} (h : GsR w0 w base L vs ln gl gv) (hb : Below w.heap.size w w') : GsR w0 w' base L vs ln gl gv :=
  ⟨h.ls.below hb, fun l hl => own_belowS (h.gown l hl) hb, own_belowS h.row hb, h.sepv, h.sepg, h.sepo, h.off, h.gpl⟩

/-- The list that is being appended to. -/
structure CurR (w0 w : World) (base L : Nat) (vs : List Value) (ln : Nat → Nat) (gl : List Value) (gv : Value) (i : Nat) (c : Value) : Prop where
  gs : GsR w0 w base L vs ln gl gv
  own : w.ownsRow base 3 1 c (ln gl.length + i) (marksY gl.length (ln gl.length + i))
  sepv : ∀ m (h : m < vs.length), gl.length ≠ m → Nm.Sep c vs[m]
  sepg : ∀ l (h : l < gl.length), Nm.Sep c gl[l]
  seps : Nm.Sep c gv
  off : c.ownBlock ≠ some L
  cpl : ∀ b, c.ownBlock = some b → Wb vs b ∨ w0.heap.size ≤ b

theorem CurR.below {w0 w w' : World} {base L : Nat} {vs : List Value} {ln : Nat → Nat} {gl : List Value} {gv : Value} {i : Nat} {c : Value} (h : CurR w0 w base L vs ln gl gv i c) (hb : Below w.heap.size w w') : CurR w0 w' base L vs ln gl gv i c :=
  ⟨h.gs.below hb, own_belowS h.own hb, h.sepv, h.sepg, h.seps, h.off, h.cpl⟩

theorem CurR.start {w0 w : World} {base L : Nat} {vs : List Value} {ln : Nat → Nat} {gl : List Value} {gv : Value} (h : GsR w0 w base L vs ln gl gv) (ha : ApartR L vs) (hk : gl.length < vs.length) : CurR w0 w base L vs ln gl gv 0 vs[gl.length] :=
  ⟨h, h.ls.own _ hk, fun m hm hne => ha.sep _ m hk hm hne, fun l hl => (h.sepo l hl _ hk (by omega)).symm, (h.sepv _ hk).symm, ha.off _ hk, fun b hb => .inl ⟨_, hk, hb⟩⟩

theorem CurR.step {w0 w w' : World} {base L : Nat} {vs : List Value} {ln : Nat → Nat} {gl : List Value} {gv : Value} {i : Nat} {c c' : Value} (h : CurR w0 w base L vs ln gl gv i c) (h0 : w0.heap.size ≤ w.heap.size)
    (hg : Nm.Grew w w' base 3 1 c c' (ln gl.length + i) (marksY gl.length (ln gl.length + i)) 1 ([(Value.int .i64 (mkI gl.length (ln gl.length + i)))])) : CurR w0 w' base L vs ln gl gv (i + 1) c' := by
  have hls : LsR w' base L vs ln (fun l => marksY l (ln l)) := h.gs.ls.grown hg.grown h.off (fun l hl => by
    by_cases hlk : gl.length = l
    · subst hlk
      exact hg.keep _ _ _ _ (h.gs.ls.own _ hl) (by omega)
    · exact kept_sepS hg.grown (h.gs.ls.own l hl) (h.sepv l hl hlk))
  refine ⟨⟨hls, fun l hl => kept_sepS hg.grown (h.gs.gown l hl) (h.sepg l hl), kept_sepS hg.grown h.gs.row h.seps, h.gs.sepv, h.gs.sepg, h.gs.sepo, h.gs.off, h.gs.gpl⟩, ?_, ?_, ?_, ?_, ?_, ?_⟩
  · have := hg.own
    rw [← marksY_succ] at this
    exact this
  · intro m hm hne; exact sep_grewS hg (h.gs.ls.own m hm) (h.sepv m hm hne)
  · intro l hl; exact sep_grewS hg (h.gs.gown l hl) (h.sepg l hl)
  · exact sep_grewS hg h.gs.row h.seps
  · rcases hg.place with hp | ⟨b, hp, hb⟩
    · rw [hp]; exact h.off
    · rw [hp]; intro e; simp only [Option.some.injEq] at e; have := h.gs.ls.lt; omega
  · intro b hb
    rcases hg.place with hp | ⟨c, hp, hc⟩
    · rw [hp] at hb; exact h.cpl b hb
    · rw [hp, Option.some.injEq] at hb; right; omega

theorem GsR.step {w0 w w' : World} {base L : Nat} {vs : List Value} {ln : Nat → Nat} {gl : List Value} {gv gv' : Value} {c : Value} (h : CurR w0 w base L vs ln gl gv 64 c) (h0 : w0.heap.size ≤ w.heap.size)
    (hg : Nm.Grew w w' base 35 1 gv gv' gl.length gl 1 [c]) : GsR w0 w' base L vs ln (gl ++ [c]) gv' := by
  have hls : LsR w' base L vs ln (fun l => marksY l (ln l)) := h.gs.ls.grown hg.grown h.gs.off (fun l hl => kept_sepS hg.grown (h.gs.ls.own l hl) (h.gs.sepv l hl))
  have hget : ∀ l (hl : l < (gl ++ [c]).length), (∃ hl' : l < gl.length, (gl ++ [c])[l] = gl[l]) ∨ (l = gl.length ∧ (gl ++ [c])[l] = c) := by
    intro l hl
    rcases Nat.lt_or_ge l gl.length with h' | h'
    · left; exact ⟨h', List.getElem_append_left h'⟩
    · right
      have : l = gl.length := by simp at hl; omega
      subst this
      exact ⟨rfl, by simp⟩
  refine ⟨hls, ?_, ?_, ?_, ?_, ?_, ?_, ?_⟩
  · intro l hl
    rcases hget l hl with ⟨hl', e⟩ | ⟨rfl, e⟩
    · rw [e]; exact kept_sepS hg.grown (h.gs.gown l hl') (h.gs.sepg l hl')
    · rw [e]; exact kept_sepS hg.grown h.own h.seps.symm
  · have := hg.own
    simpa using this
  · intro l hl; exact sep_grewS hg (h.gs.ls.own l hl) (h.gs.sepv l hl)
  · intro l hl
    rcases hget l hl with ⟨hl', e⟩ | ⟨rfl, e⟩
    · rw [e]; exact sep_grewS hg (h.gs.gown l hl') (h.gs.sepg l hl')
    · rw [e]; exact sep_grewS hg h.own h.seps.symm
  · intro l hl m hm hne
    rcases hget l hl with ⟨hl', e⟩ | ⟨rfl, e⟩
    · rw [e]; exact h.gs.sepo l hl' m hm hne
    · rw [e]; exact h.sepv m hm hne
  · rcases hg.place with hp | ⟨b, hp, hb⟩
    · rw [hp]; exact h.gs.off
    · rw [hp]; intro e; simp only [Option.some.injEq] at e; have := h.gs.ls.lt; omega
  · intro b hb
    rcases hg.place with hp | ⟨c, hp, hc⟩
    · rw [hp] at hb; exact h.gs.gpl b hb
    · rw [hp, Option.some.injEq] at hb; omega

theorem info_rowsY : (Try.prog.info? 35).map (fun i => (i.zero, i.size, i.bytes)) = some (some (.slice none 0 0), 1, 24) := by kernel_rfl

theorem markY_any (k i : Nat) (hk : k < 4000000) (hi : i < 1099511627776) (w : World) :
    Calls Try.prog 31 #[nu k, nu i] w fun e w' => e = .returned ((Value.int .i64 (mkI k i))) ∧ Below w.heap.size w w' := by
  unfold mkI
  go_enter Try.func31, Try.ntmps31
  go_wp2
  go_ret
  exact ⟨rfl, Below.refl _ _⟩

theorem markY_at (k i : Int) (k' i' : Nat) (ek : k = k') (ei : i = i') (hk : k' < 4000000) (hi : i' < 1099511627776) (w : World) :
    Calls Try.prog 31 #[nu k, nu i] w fun e w' => e = .returned ((Value.int .i64 (mkI k' i'))) ∧ Below w.heap.size w w' := by
  subst ek ei; exact markY_any k' i' hk hi w

theorem rows_cell {w : World} {base : Nat} {gl : List Value} {gg cg n : Nat} (h : w.ownsRow base 35 1 (.slice (some ⟨gg, 0, none⟩) n cg) n gl) (hn : gl.length = n) (k : Nat) (hk : k < gl.length) : w.cell? ⟨gg, k, none⟩ = some gl[k] := by
  obtain ⟨⟨u, h1, h2⟩, _⟩ := own_cellS h k (by omega)
  rw [List.getElem?_eq_getElem hk] at h1
  rw [h2, ← h1]

theorem mark_cellY {w : World} {base : Nat} {g c k n : Nat} (h : w.ownsRow base 3 1 (.slice (some ⟨g, 0, none⟩) n c) n (marksY k n)) (i : Nat) (hi : i < n) : w.cell? ⟨g, i, none⟩ = some ((Value.int .i64 (mkI k i))) := by
  obtain ⟨⟨u, h1, h2⟩, _⟩ := own_cellS h i (by omega)
  rw [marksY_at k n i hi] at h1
  rw [h2, ← h1]

theorem below_fromR {w a b : World} (h : Below w.heap.size w a) (k : Below a.heap.size a b) : Below w.heap.size w b := h.trans (k.mono h.size)

theorem keep_more {F : Nat → Prop} {w a b : World} (h : Keep F w a) (k : Below a.heap.size a b) : Keep F w b := h.trans (Keep.of_below (F := fun _ => False) k) (fun _ _ hf => hf.elim)

set_option maxRecDepth 1000000 in
set_option maxHeartbeats 4000000 in
theorem apartW_l (vs : List Value) (ln : Nat → Nat) (base L cap0 : Nat) (f0 : Nat → List Value) (w : World) (hL : LsR w base L vs ln f0) (ha : ApartR L vs) (hn : vs.length < 4000000) (hln : ∀ l, ln l < 1000000000) (hc0 : vs.length ≤ cap0) (hc1 : cap0 ≤ maxLen) :
    Calls Try.prog 14 #[.slice (some ⟨L, 0, none⟩) vs.length cap0] w fun e w' => e = .returned (.bool true) ∧ Keep (Wb vs) w w' ∧ ∃ f, LsR w' base L vs ln f := by
  unfold maxLen at hc1
  have HLN : Hid (∀ l, ln l < 1000000000) := hln
  have HA : Hid (ApartR L vs) := ha
  have HL0 : Hid (LsR w base L vs ln f0) := hL
  clear hln ha hL
  go_enter Try.func14, Try.ntmps14
  go_wp2
  go_loopw [3, 4] (fun kv _ wr => ∃ (k : Nat) (f : Nat → List Value), k ≤ vs.length ∧ kv = .int .i64 k ∧ Hid (LsR wr base L vs ln f) ∧ Hid (∀ l, l < k → f l = marksY l (ln l)) ∧ Hid (Keep (Wb vs) w wr)) (fun kv _ _ => vs.length - (intOf kv).toNat)
  case atStart => exact ⟨0, f0, Nat.zero_le _, rfl, HL0, fun l h => by omega, Keep.refl _ _⟩
  case round =>
    obtain ⟨k, f, hk, rfl, hls, hf, hb⟩ := hrel
    by_cases hkn : k < vs.length
    · go_wp2
      rename World => w1
      go_loopw [4] (fun iv wr => ∃ (i : Nat) (f : Nat → List Value), i ≤ ln k ∧ iv = .int .i64 i ∧ Hid (LsR wr base L vs ln f) ∧ Hid (∀ l, l < k → f l = marksY l (ln l)) ∧ Hid ((f k).take i = marksY k i) ∧ Hid (Keep (Wb vs) w wr)) (fun iv _ => ln k - (intOf iv).toNat)
      case atStart => exact ⟨0, f, Nat.zero_le _, rfl, hls, hf, rfl, hb⟩
      case round =>
        clear hls hf hb
        clear f
        obtain ⟨i, f, hi, rfl, hls, hf, hfk, hb⟩ := hrel
        obtain ⟨a, cap, hv, hcap, hmax, hg⟩ := Nm.own_shape (hls.out.own k hkn)
        have hlnk := HLN.out k
        have hcell : wr.cell? ⟨L, k, none⟩ = some (.slice a (ln k) cap) := by rw [← hv]; exact hls.out.cell k hkn
        unfold maxLen at hmax
        by_cases hin : i < ln k
        · obtain ⟨g, rfl⟩ := hg (by omega)
          have HV : Hid (vs[k] = .slice (some ⟨g, 0, none⟩) (ln k) cap) := hv
          clear hv hg
          go_upto_block 3 with fail
          go_cut [] from 18 to 35 (fun wr => ∃ (f : Nat → List Value), Hid (LsR wr base L vs ln f) ∧ Hid (∀ l, l < k → f l = marksY l (ln l)) ∧ Hid ((f k).take (i + 1) = marksY k (i + 1)) ∧ Hid (Keep (Wb vs) w wr))
          case first =>
            go_wp2_with fail
            go_region_with (go_at_call 31; refine (markY_any _ _ (by omega) (by omega) _).mono ?_; rintro e w5 ⟨rfl, q5⟩; have q6 := below_fromR (w := wr) (by repeat (first | exact Below.refl _ _ | apply Below.drew)) q5; obtain ⟨u, hcu, hfz, hc5⟩ := store_factsR hls.out hkn HV.out hin q6)
            all_goals (go_wp2_with fail; go_meet; exact store_stepR hls.out HA.out hkn HV.out hin q6 hf.out hfk.out hb.out)
          case rest =>
            obtain ⟨f', hls', hf', hfk', hb'⟩ := hcut
            clear hls hf hfk hb hcell
            go_wp2
            go_roundw
            case rel => exact ⟨i + 1, f', by omega, by go_num, hls', hf', hfk', hb'⟩
            case measure => simp [intOf]; omega
        · have hfull : Hid (∀ l, l < k + 1 → f l = marksY l (ln l)) := by
            intro l hl
            rcases Nat.lt_or_ge l k with h' | h'
            · exact hf.out l h'
            · have e : l = k := by omega
              subst e
              have hlen : (f l).length = ln l := by have := (hls.out.own l hkn).1; omega
              have := hfk.out
              have hil : i = ln l := by omega
              rw [hil, List.take_of_length_le (by omega)] at this
              exact this
          clear hv hg
          go_wp2
          go_roundw
          case rel => exact ⟨k + 1, f, by omega, by go_num, hls, hfull, hb⟩
          case measure => simp [intOf]; omega
    · have hall : Hid (LsR wr base L vs ln (fun l => marksY l (ln l))) := by
        have h := hls.out
        exact ⟨fun l hl => by have := h.own l hl; rw [hf.out l (by omega)] at this; exact this, h.cell, h.lt, h.le⟩
      clear hls hf
      clear f
      obtain ⟨i0, hi, hz0, hz1, hz2⟩ := info_parts info_int
      obtain ⟨j0, hj, hy0, hy1, hy2⟩ := info_parts info_rowsY
      have hgs0 : Hid (GsR w wr base L vs ln [] (.slice none 0 0)) :=
        ⟨hall.out, fun l h => by simp at h, World.ownsRow_nil _ _ _ _, fun l h => Nm.Sep.nil _, fun l h => by simp at h, fun l h => by simp at h, by simp [Value.ownBlock], fun b h => by simp [Value.ownBlock] at h⟩
      clear hall
      go_wp2
      go_loopw [5, 6] (fun gv kv wr => ∃ (gl : List Value), gl.length ≤ vs.length ∧ kv = .int .i64 gl.length ∧ Hid (GsR w wr base L vs ln gl gv) ∧ Hid (Keep (Wb vs) w wr)) (fun _ kv _ => vs.length - (intOf kv).toNat)
      case atStart => exact ⟨[], Nat.zero_le _, rfl, hgs0, hb⟩
      case round =>
        clear hkn hk hgs0 hb
        obtain ⟨gl, hk, rfl, hgs, hb⟩ := hrel
        by_cases hkn : gl.length < vs.length
        · obtain ⟨a, cap, hv, hcap, hmax, hg⟩ := Nm.own_shape (hgs.out.ls.own _ hkn)
          have hlnk := HLN.out gl.length
          have hcell : wr.cell? ⟨L, gl.length, none⟩ = some (.slice a (ln gl.length) cap) := by rw [← hv]; exact hgs.out.ls.cell _ hkn
          unfold maxLen at hmax
          have hcur : Hid (CurR w wr base L vs ln gl u5 0 (.slice a (ln gl.length) cap)) := by rw [← hv]; exact CurR.start hgs.out HA.out hkn
          have HV : Hid (vs[gl.length] = .slice a (ln gl.length) cap) := hv
          clear hv hg hgs
          go_wp2
          go_loopw [7, 8] (fun cv iv wr => ∃ (i : Nat), i ≤ 64 ∧ iv = .int .i64 i ∧ Hid (CurR w wr base L vs ln gl u5 i cv) ∧ Hid (Keep (Wb vs) w wr)) (fun _ iv _ => 64 - (intOf iv).toNat)
          case atStart => exact ⟨0, by omega, rfl, hcur, hb⟩
          case round =>
            clear hcur hb hcell
            obtain ⟨i, hi64, rfl, hcur, hb⟩ := hrel
            have hcell : wr.cell? ⟨L, gl.length, none⟩ = some (.slice a (ln gl.length) cap) := by rw [← HV.out]; exact hcur.out.gs.ls.cell _ hkn
            by_cases hin : i < 64
            · go_wp2_with fail
              refine (markY_at _ _ gl.length (ln gl.length + i) rfl (by omega) (by omega) (by omega) _).mono ?_
              rintro e w5 ⟨rfl, q5⟩
              have hcur5 : CurR w w5 base L vs ln gl u5 i u7 := hcur.out.below q5
              have hle5 : base ≤ w5.heap.size := hcur5.gs.ls.le
              have hb5 : Hid (Keep (Wb vs) w w5) := keep_more hb.out q5
              have HC5 : Hid (CurR w w5 base L vs ln gl u5 i u7) := hcur5
              have howna := hcur5.own.alloc (.cells #[(Value.int .i64 (mkI gl.length (ln gl.length + i)))] 3)
              clear hcur5 hcell hcur hb
              go_wp2_with (at_builtin; refine Nm.wpList_append_keep _ rfl _ _ 35 rfl base 3 i0 (.int .i64 0) 1 8 Try.underlying35 hi hz0 hz1 hz2 rfl (by decide) _ _ _ rfl howna ⟨w5.heap.size, 0, none⟩ 1 1 [(Value.int .i64 (mkI gl.length (ln gl.length + i)))] rfl rfl ?c1 ?c2 ?c3 ?c4 ?c5 (by decide) ?_)
              case c1 => exact cell_one_new _ _ _
              case c2 => intro u hu; simp at hu; subst hu; rfl
              case c3 => unfold maxLen; omega
              case c4 => omega
              case c5 => simp; omega
              intro v' w6 hgrew
              have hal : Below w5.heap.size w5 (w5.alloc (.cells #[(Value.int .i64 (mkI gl.length (ln gl.length + i)))] 3)) := (Below.refl _ _).alloc (Nat.le_refl _) _
              have hkA := keep_more hb5.out hal
              have hcur6 : Hid (CurR w w6 base L vs ln gl u5 (i + 1) v') := CurR.step (HC5.out.below hal) hkA.size hgrew
              have hb6 : Hid (Keep (Wb vs) w w6) := Keep.grown hkA hgrew.grown (fun b hb => HC5.out.cpl b hb)
              clear hgrew howna HC5 hb5 hal hkA
              go_wp2
              go_roundw
              case rel => exact ⟨i + 1, by omega, by go_num, hcur6, hb6⟩
              case measure => simp [intOf]; omega
            · have hi2 : i = 64 := by omega
              subst hi2
              have hle5 : base ≤ wr.heap.size := hcur.out.gs.ls.le
              obtain ⟨ac, cc, hu7, _, _, _⟩ := Nm.own_shape hcur.out.own
              subst hu7
              have hrow := hcur.out.gs.row.alloc (.cells #[.slice ac (ln gl.length + 64) cc] 35)
              clear hcell
              go_wp2_with (at_builtin; refine Nm.wpList_append_keep _ rfl _ _ 29 rfl base 35 j0 (.slice none 0 0) 1 24 Try.underlying29 hj hy0 hy1 hy2 rfl (by decide) _ _ _ rfl hrow ⟨wr.heap.size, 0, none⟩ 1 1 [.slice ac (ln gl.length + 64) cc] rfl rfl ?c1 ?c2 ?c3 ?c4 ?c5 (by decide) ?_)
              case c1 => exact cell_one_new _ _ _
              case c2 => intro u hu; simp at hu; subst hu; rfl
              case c3 => unfold maxLen; omega
              case c4 => omega
              case c5 => simp; omega
              intro v' w6 hgrew
              have hal : Below wr.heap.size wr (wr.alloc (.cells #[.slice ac (ln gl.length + 64) cc] 35)) := (Below.refl _ _).alloc (Nat.le_refl _) _
              have hkA := keep_more hb.out hal
              have hgs6 : Hid (GsR w w6 base L vs ln (gl ++ [.slice ac (ln gl.length + 64) cc]) v') := GsR.step (hcur.out.below hal) hkA.size hgrew
              have hb6 : Hid (Keep (Wb vs) w w6) := Keep.grown hkA hgrew.grown (fun b hb => .inr (hcur.out.gs.gpl b hb))
              clear hgrew hrow hal hcur hb hkA
              go_wp2
              go_roundw
              case rel => exact ⟨gl ++ [.slice ac (ln gl.length + 64) cc], by simp; omega, by simp, hgs6, hb6⟩
              case measure => simp [intOf]; omega
        · have hgl : gl.length = vs.length := by omega
          have HGL : Hid (gl.length = vs.length) := hgl
          clear hgl
          go_wp2
          clear hkn hk
          go_loopw [9] (fun kv wr => ∃ (k : Nat), k ≤ vs.length ∧ kv = .int .i64 k ∧ Hid (GsR w wr base L vs ln gl u5) ∧ Hid (Keep (Wb vs) w wr)) (fun kv _ => vs.length - (intOf kv).toNat)
          case atStart => exact ⟨0, Nat.zero_le _, rfl, hgs, hb⟩
          case round =>
            obtain ⟨ag, cg, hu5, hg1, hg2, hg3⟩ := Nm.own_shape hgs.out.row
            subst hu5
            clear hgs hb
            obtain ⟨k2, hk, rfl, hgs, hb⟩ := hrel
            unfold maxLen at hg2
            by_cases hkn : k2 < vs.length
            · have hkg : k2 < gl.length := by have := HGL.out; omega
              obtain ⟨gg, rfl⟩ := hg3 (by omega)
              obtain ⟨a2, c2, hs1, hs2, hs3, hs4⟩ := Nm.own_shape (hgs.out.gown k2 hkg)
              obtain ⟨g2, rfl⟩ := hs4 (by omega)
              have HS1 : Hid (gl[k2] = .slice (some ⟨g2, 0, none⟩) (ln k2 + 64) c2) := hs1
              obtain ⟨a1, c1, hv1, hv2, hv3, hv4⟩ := Nm.own_shape (hgs.out.ls.own k2 hkn)
              have HV1 : Hid (vs[k2] = .slice a1 (ln k2) c1) := hv1
              have HV4 : Hid (0 < ln k2 → ∃ g, a1 = some ⟨g, 0, none⟩) := hv4
              have hlnk := HLN.out k2
              clear hs1 hs4 hv1 hg3 hv4
              unfold maxLen at hs3 hv3
              go_wp2
              go_loopw [10] (fun iv wr => ∃ (i : Nat), i ≤ ln k2 + 64 ∧ iv = .int .i64 i ∧ Hid (GsR w wr base L vs ln gl (.slice (some ⟨gg, 0, none⟩) gl.length cg)) ∧ Hid (Keep (Wb vs) w wr)) (fun iv _ => ln k2 + 64 - (intOf iv).toNat)
              case atStart => exact ⟨0, Nat.zero_le _, rfl, hgs, hb⟩
              case round =>
                clear hgs hb
                obtain ⟨i, hi64, rfl, hgs, hb⟩ := hrel
                have hc1 : wr.cell? ⟨gg, k2, none⟩ = some (.slice (some ⟨g2, 0, none⟩) (ln k2 + 64) c2) := by
                  rw [← HS1.out]; exact rows_cell hgs.out.row rfl k2 hkg
                by_cases hin : i < ln k2 + 64
                · go_wp2_with fail
                  refine (markY_any _ _ (by omega) (by omega) _).mono ?_
                  rintro e w5 ⟨rfl, q5⟩
                  have hgs5 : Hid (GsR w w5 base L vs ln gl (.slice (some ⟨gg, 0, none⟩) gl.length cg)) := hgs.out.below q5
                  have hb5 : Hid (Keep (Wb vs) w w5) := keep_more hb.out q5
                  clear hgs hb hc1
                  have hc1 : w5.cell? ⟨gg, k2, none⟩ = some (.slice (some ⟨g2, 0, none⟩) (ln k2 + 64) c2) := by
                    rw [← HS1.out]; exact rows_cell hgs5.out.row rfl k2 hkg
                  have hc2 : w5.cell? ⟨g2, i, none⟩ = some ((Value.int .i64 (mkI k2 i))) := mark_cellY (by rw [← HS1.out]; exact hgs5.out.gown k2 hkg) i hin
                  have hc3 : w5.cell? ⟨L, k2, none⟩ = some (.slice a1 (ln k2) c1) := by rw [← HV1.out]; exact hgs5.out.ls.cell k2 hkn
                  generalize hms : mkI k2 i = mm at *
                  by_cases hil : i < ln k2
                  · obtain ⟨g1, rfl⟩ := HV4.out (by omega)
                    have hc4 : w5.cell? ⟨g1, i, none⟩ = some (.int .i64 mm) := by
                      rw [← hms]; exact mark_cellY (by rw [← HV1.out]; exact hgs5.out.ls.own k2 hkn) i hil
                    clear hms
                    go_wp2
                    go_roundw
                    case rel => exact ⟨i + 1, by omega, by go_num, hgs5, hb5⟩
                    case measure => simp [intOf]; omega
                  · clear hms
                    go_wp2
                    go_roundw
                    case rel => exact ⟨i + 1, by omega, by go_num, hgs5, hb5⟩
                    case measure => simp [intOf]; omega
                · go_wp2
                  go_roundw
                  case rel => exact ⟨k2 + 1, by omega, by go_num, hgs, hb⟩
                  case measure => simp [intOf]; omega
            · go_wp2
              go_ret
              exact ⟨rfl, hb.out, _, hgs.out.ls⟩
end Wk
end Go.Proofs.Ytbkcpjgaoncioaa
