/- OwnY, ApartY, ScanS, ScanA, RscR, Lent, AgainK, in one text. -/
import Derived.Test.YtjnodkjeiogloaaDoorOwn
import Derived.Test.YtjnodkjeiogloaaDoorFoot
import Derived.Test.YtjnodkjeiogloaaDoorRowB
import Derived.Deep.CutBlock
import Derived.Deep.RegionWith
import Derived.Test.YtjnodkjeiogloaaDoorPrgW
import Derived.Test.YtjnodkjeiogloaaDoorKnoM
import Derived.Test.YtjnodkjeiogloaaDoorSame
import Derived.Test.YtjnodkjeiogloaaDoorApartP
/- Rows of bytes that were handed out: what stores and appends leave of them. -/
namespace Go.Proofs.YtjnodkjeiogloaaDoor
set_option linter.ambiguousOpen false
open Go.RowKit
namespace Pk
open Sm Ft
set_option linter.unusedSimpArgs false
set_option linter.unusedVariables false

/-- A store of one cell into an owned row. -/
theorem own_setS {w : World} {base g cap n size : Nat} {e : TypeId} {xs : List Value} (h : w.ownsRow base e size (.slice (some ⟨g, 0, none⟩) n cap) n xs) (i : Nat) (u : Value) :
    (w.setCell ⟨g, i, none⟩ u).ownsRow base e size (.slice (some ⟨g, 0, none⟩) n cap) n (xs.set i u) := by
  rcases h.2 with ⟨hv, _⟩ | ⟨g', cap', cur, hv, hbg, hg, hnc, hcm, hcs, htake⟩
  · simp at hv
  · simp only [Value.slice.injEq, Option.some.injEq, Addr.mk.injEq, and_true, true_and] at hv
    obtain ⟨rfl, rfl⟩ := hv
    refine ⟨by simpa using h.1, .inr ⟨g, cap, cur.setIfInBounds i u, rfl, hbg, ?_, hnc, hcm, by simpa using hcs, ?_⟩⟩
    · have hlt : g < w.heap.size := (Array.getElem?_eq_some_iff.1 hg).1
      simp [World.setCell, Array.getElem?_modify, hg]
    · rw [← htake]
      simp [List.take_set]

theorem own_cellS {w : World} {base g cap n size : Nat} {e : TypeId} {xs : List Value} (h : w.ownsRow base e size (.slice (some ⟨g, 0, none⟩) n cap) n xs) (i : Nat) (hi : i < n * size) :
    (∃ u, xs[i]? = some u ∧ w.cell? ⟨g, i, none⟩ = some u) ∧ w.frozen? ⟨g, i, none⟩ = false := by
  rcases h.2 with ⟨hv, _⟩ | ⟨g', cap', cur, hv, hbg, hg, hnc, hcm, hcs, htake⟩
  · simp at hv
  · simp only [Value.slice.injEq, Option.some.injEq, Addr.mk.injEq, and_true, true_and] at hv
    obtain ⟨rfl, rfl⟩ := hv
    have hlen : i < cur.size := by
      rw [hcs]
      exact Nat.lt_of_lt_of_le hi (Nat.mul_le_mul_right _ hnc)
    refine ⟨⟨cur[i], ?_, ?_⟩, ?_⟩
    · rw [← htake, List.getElem?_take_of_lt hi]
      simp [hlen]
    · simp [World.cell?, hg, hlen]
    · simp [World.frozen?, hg]

theorem own_belowS {w w' : World} {base : Nat} {e : TypeId} {size : Nat} {v : Value} {n : Nat} {xs : List Value} (h : w.ownsRow base e size v n xs) (hb : Below w.heap.size w w') : w'.ownsRow base e size v n xs := own_keptB h hb

/-- Marks. -/
def mkI (k i : Nat) : Int := (37 * ((k : Int) + 1) + (i : Int)) % 256

def marksY (k n : Nat) : List Value := (List.range n).map (fun i => (Value.int .u8 (mkI k i)))

theorem marksY_len (k n : Nat) : (marksY k n).length = n := by simp [marksY]

theorem marksY_succ (k n : Nat) : marksY k (n + 1) = marksY k n ++ [(Value.int .u8 (mkI k n))] := by simp [marksY, List.range_succ]

theorem marksY_at (k n i : Nat) (h : i < n) : (marksY k n)[i]? = some ((Value.int .u8 (mkI k i))) := by simp [marksY, h]

/-- The list of lists lies at block L; each list is owned; its cells are told by f. -/
structure LsR (w : World) (base L : Nat) (vs : List Value) (ln : Nat → Nat) (f : Nat → List Value) : Prop where
  own : ∀ l (h : l < vs.length), w.ownsRow base 5 1 vs[l] (ln l) (f l)
  cell : ∀ l (h : l < vs.length), w.cell? ⟨L, l, none⟩ = some vs[l]
  lt : L < w.heap.size
  le : base ≤ w.heap.size

theorem LsR.below {w w' : World} {base L : Nat} {vs : List Value} {ln : Nat → Nat} {f : Nat → List Value} (h : LsR w base L vs ln f) (hb : Below w.heap.size w w') : LsR w' base L vs ln f :=
  ⟨fun l hl => own_belowS (h.own l hl) hb, fun l hl => (hb.cell (p := ⟨L, l, none⟩) h.lt).trans (h.cell l hl), Nat.lt_of_lt_of_le h.lt hb.size, Nat.le_trans h.le hb.size⟩

/-- Lists in blocks of their own, none of them the list of lists'. -/
structure ApartR (L : Nat) (vs : List Value) : Prop where
  sep : ∀ l m (h : l < vs.length) (h' : m < vs.length), l ≠ m → Nm.Sep vs[l] vs[m]
  off : ∀ l (h : l < vs.length), vs[l].ownBlock ≠ some L

/-- The blocks of the lists. -/
def Wb (vs : List Value) : Nat → Prop := fun b => ∃ l, ∃ h : l < vs.length, vs[l].ownBlock = some b

theorem LsR.set {w : World} {base L : Nat} {vs : List Value} {ln : Nat → Nat} {f : Nat → List Value} (h : LsR w base L vs ln f) (ha : ApartR L vs) (k i g cap : Nat) (hk : k < vs.length) (hv : vs[k] = .slice (some ⟨g, 0, none⟩) (ln k) cap) (u : Value) :
    LsR (w.setCell ⟨g, i, none⟩ u) base L vs ln (fun l => if l = k then (f k).set i u else f l) := by
  have hgb : vs[k].ownBlock = some g := by rw [hv]; rfl
  refine ⟨fun l hl => ?_, fun l hl => ?_, by simpa [World.setCell] using h.lt, by simpa [World.setCell] using h.le⟩
  · by_cases hlk : l = k
    · subst hlk
      simp only [if_true]
      have := h.own l hl
      rw [hv] at this ⊢
      exact own_setS this i u
    · simp only [hlk, if_false]
      exact Nm.own_setOther (h.own l hl) _ u (fun e => ha.sep l k hl hk hlk g e hgb)
  · have hne : L ≠ g := fun e => ha.off k hk (by rw [hgb, e])
    rw [← h.cell l hl]
    exact World.cell?_of_block (w := w) (Below.heap_setCell _ _ _ _ hne)

theorem take_set1 (xs : List Value) (i : Nat) (u : Value) (h : i < xs.length) : (xs.set i u).take (i + 1) = xs.take i ++ [u] := by
  rw [List.take_set, List.take_succ_eq_append_getElem h]
  rw [List.set_append_right _ _ (by rw [List.length_take]; omega)]
  have : i - (List.take i xs).length = 0 := by rw [List.length_take]; omega
  rw [this]; rfl

theorem store_factsR {w w5 : World} {base L : Nat} {vs : List Value} {ln : Nat → Nat} {f : Nat → List Value} {k i g cap : Nat} (h : LsR w base L vs ln f) (hk : k < vs.length) (hv : vs[k] = .slice (some ⟨g, 0, none⟩) (ln k) cap) (hi : i < ln k) (hb : Below w.heap.size w w5) :
    ∃ u, w5.cell? ⟨g, i, none⟩ = some u ∧ w5.frozen? ⟨g, i, none⟩ = false ∧ w5.cell? ⟨L, k, none⟩ = some (.slice (some ⟨g, 0, none⟩) (ln k) cap) := by
  have h5 := h.below hb
  have ho := h5.own k hk
  rw [hv] at ho
  obtain ⟨⟨u, _, hcu⟩, hfz⟩ := own_cellS ho i (by omega)
  exact ⟨u, hcu, hfz, by rw [← hv]; exact h5.cell k hk⟩

theorem store_stepR {w0 w w5 : World} {base L : Nat} {vs : List Value} {ln : Nat → Nat} {f : Nat → List Value} {k i g cap : Nat} (h : LsR w base L vs ln f) (ha : ApartR L vs) (hk : k < vs.length) (hv : vs[k] = .slice (some ⟨g, 0, none⟩) (ln k) cap) (hi : i < ln k) (hb : Below w.heap.size w w5)
    (hf : ∀ l, l < k → f l = marksY l (ln l)) (hfk : (f k).take i = marksY k i) (hb0 : Keep (Wb vs) w0 w) :
    ∃ f' : Nat → List Value, Hid (LsR (w5.setCell ⟨g, i, none⟩ ((Value.int .u8 (mkI k i)))) base L vs ln f') ∧ Hid (∀ l, l < k → f' l = marksY l (ln l)) ∧ Hid ((f' k).take (i + 1) = marksY k (i + 1)) ∧ Hid (Keep (Wb vs) w0 (w5.setCell ⟨g, i, none⟩ ((Value.int .u8 (mkI k i))))) := by
  have h5 := h.below hb
  have hlen : (f k).length = ln k := by have := (h.own k hk).1; omega
  have hW : Wb vs g := ⟨k, hk, by rw [hv]; rfl⟩
  have hk5 : Keep (Wb vs) w0 w5 := hb0.trans (Keep.of_below (F := fun _ => False) hb) (fun _ _ hf => hf.elim)
  refine ⟨_, h5.set ha k i g cap hk hv ((Value.int .u8 (mkI k i))), fun l hl => ?_, ?_, Keep.setCell (p := ⟨g, i, none⟩) hk5 (.inl hW) _⟩
  · have : l ≠ k := by omega
    simp only [this, if_false]; exact hf l hl
  · show (if k = k then (f k).set i ((Value.int .u8 (mkI k i))) else f k).take (i + 1) = marksY k (i + 1)
    rw [if_pos rfl, take_set1 _ _ _ (by omega), hfk, marksY_succ]

theorem sep_grewS {w w' : World} {base : Nat} {e : TypeId} {size : Nat} {v v' : Value} {n : Nat} {xs : List Value} {m : Nat} {news : List Value} (h : Nm.Grew w w' base e size v v' n xs m news) {x : Value} {bx : Nat} {ex : TypeId} {sx nx : Nat} {ys : List Value} (hx : w.ownsRow bx ex sx x nx ys) (hs : Nm.Sep v x) : Nm.Sep v' x := by
  rcases h.place with hp | ⟨b, hp, hb⟩
  · intro c hc; rw [hp] at hc; exact hs c hc
  · intro c hc hxc
    rw [hp] at hc
    have := (hx.lt c hxc).2
    simp only [Option.some.injEq] at hc
    omega

theorem kept_sepS {w w' : World} {v x : Value} {bx : Nat} {ex : TypeId} {sx nx : Nat} {ys : List Value} (hg : w.grownBy w' v.ownBlock) (hx : w.ownsRow bx ex sx x nx ys) (hs : Nm.Sep v x) : w'.ownsRow bx ex sx x nx ys := by
  refine hx.kept hg ?_
  cases hxo : x.ownBlock with
  | none => exact Or.inl rfl
  | some c => right; intro e; exact hs c e.symm hxo

theorem LsR.grown {w w' : World} {base L : Nat} {vs : List Value} {ln : Nat → Nat} {f : Nat → List Value} {v : Value} (h : LsR w base L vs ln f) (hg : w.grownBy w' v.ownBlock) (hoff : v.ownBlock ≠ some L) (hown : ∀ l (hl : l < vs.length), w'.ownsRow base 5 1 vs[l] (ln l) (f l)) : LsR w' base L vs ln f :=
  ⟨hown, fun l hl => (World.cell?_of_block (a := ⟨L, l, none⟩) (hg.block L h.lt (fun e => hoff e.symm))).trans (h.cell l hl), Nat.lt_of_lt_of_le h.lt hg.size, Nat.le_trans h.le hg.size⟩

/-- The lists that were appended to. -/
structure GsR (w0 w : World) (base L : Nat) (vs : List Value) (ln : Nat → Nat) (gl : List Value) (gv : Value) : Prop where
  ls : LsR w base L vs ln (fun l => marksY l (ln l))
  gown : ∀ l (h : l < gl.length), w.ownsRow base 5 1 gl[l] (ln l + 64) (marksY l (ln l + 64))
  row : w.ownsRow base 23 1 gv gl.length gl
  sepv : ∀ l (h : l < vs.length), Nm.Sep gv vs[l]
  sepg : ∀ l (h : l < gl.length), Nm.Sep gv gl[l]
  sepo : ∀ l (h : l < gl.length) m (h' : m < vs.length), l ≠ m → Nm.Sep gl[l] vs[m]
  off : gv.ownBlock ≠ some L
  gpl : ∀ b, gv.ownBlock = some b → w0.heap.size ≤ b

theorem GsR.below {w0 w w' : World} {base L : Nat} {vs : List Value} {ln : Nat → Nat} {gl : List Value} {gv : Value} (h : GsR w0 w base L vs ln gl gv) (hb : Below w.heap.size w w') : GsR w0 w' base L vs ln gl gv :=
  ⟨h.ls.below hb, fun l hl => own_belowS (h.gown l hl) hb, own_belowS h.row hb, h.sepv, h.sepg, h.sepo, h.off, h.gpl⟩

/-- The list that is being appended to. -/
structure CurR (w0 w : World) (base L : Nat) (vs : List Value) (ln : Nat → Nat) (gl : List Value) (gv : Value) (i : Nat) (c : Value) : Prop where
  gs : GsR w0 w base L vs ln gl gv
  own : w.ownsRow base 5 1 c (ln gl.length + i) (marksY gl.length (ln gl.length + i))
  sepv : ∀ m (h : m < vs.length), gl.length ≠ m → Nm.Sep c vs[m]
  sepg : ∀ l (h : l < gl.length), Nm.Sep c gl[l]
  seps : Nm.Sep c gv
  off : c.ownBlock ≠ some L
  cpl : ∀ b, c.ownBlock = some b → Wb vs b ∨ w0.heap.size ≤ b

theorem CurR.below {w0 w w' : World} {base L : Nat} {vs : List Value} {ln : Nat → Nat} {gl : List Value} {gv : Value} {i : Nat} {c : Value} (h : CurR w0 w base L vs ln gl gv i c) (hb : Below w.heap.size w w') : CurR w0 w' base L vs ln gl gv i c :=
  ⟨h.gs.below hb, own_belowS h.own hb, h.sepv, h.sepg, h.seps, h.off, h.cpl⟩

theorem CurR.start {w0 w : World} {base L : Nat} {vs : List Value} {ln : Nat → Nat} {gl : List Value} {gv : Value} (h : GsR w0 w base L vs ln gl gv) (ha : ApartR L vs) (hk : gl.length < vs.length) : CurR w0 w base L vs ln gl gv 0 vs[gl.length] :=
  ⟨h, h.ls.own _ hk, fun m hm hne => ha.sep _ m hk hm hne, fun l hl => (h.sepo l hl _ hk (by omega)).symm, (h.sepv _ hk).symm, ha.off _ hk, fun b hb => .inl ⟨_, hk, hb⟩⟩

theorem CurR.step {w0 w w' : World} {base L : Nat} {vs : List Value} {ln : Nat → Nat} {gl : List Value} {gv : Value} {i : Nat} {c c' : Value} (h : CurR w0 w base L vs ln gl gv i c) (h0 : w0.heap.size ≤ w.heap.size)
    (hg : Nm.Grew w w' base 5 1 c c' (ln gl.length + i) (marksY gl.length (ln gl.length + i)) 1 ([(Value.int .u8 (mkI gl.length (ln gl.length + i)))])) : CurR w0 w' base L vs ln gl gv (i + 1) c' := by
  have hls : LsR w' base L vs ln (fun l => marksY l (ln l)) := h.gs.ls.grown hg.grown h.off (fun l hl => by
    by_cases hlk : gl.length = l
    · subst hlk
      exact hg.keep _ _ _ _ (h.gs.ls.own _ hl) (by omega)
    · exact kept_sepS hg.grown (h.gs.ls.own l hl) (h.sepv l hl hlk))
  refine ⟨⟨hls, fun l hl => kept_sepS hg.grown (h.gs.gown l hl) (h.sepg l hl), kept_sepS hg.grown h.gs.row h.seps, h.gs.sepv, h.gs.sepg, h.gs.sepo, h.gs.off, h.gs.gpl⟩, ?_, ?_, ?_, ?_, ?_, ?_⟩
  · have := hg.own
    rw [← marksY_succ] at this
    exact this
  · intro m hm hne; exact sep_grewS hg (h.gs.ls.own m hm) (h.sepv m hm hne)
  · intro l hl; exact sep_grewS hg (h.gs.gown l hl) (h.sepg l hl)
  · exact sep_grewS hg h.gs.row h.seps
  · rcases hg.place with hp | ⟨b, hp, hb⟩
    · rw [hp]; exact h.off
    · rw [hp]; intro e; simp only [Option.some.injEq] at e; have := h.gs.ls.lt; omega
  · intro b hb
    rcases hg.place with hp | ⟨c, hp, hc⟩
    · rw [hp] at hb; exact h.cpl b hb
    · rw [hp, Option.some.injEq] at hb; right; omega

theorem GsR.step {w0 w w' : World} {base L : Nat} {vs : List Value} {ln : Nat → Nat} {gl : List Value} {gv gv' : Value} {c : Value} (h : CurR w0 w base L vs ln gl gv 64 c) (h0 : w0.heap.size ≤ w.heap.size)
    (hg : Nm.Grew w w' base 23 1 gv gv' gl.length gl 1 [c]) : GsR w0 w' base L vs ln (gl ++ [c]) gv' := by
  have hls : LsR w' base L vs ln (fun l => marksY l (ln l)) := h.gs.ls.grown hg.grown h.gs.off (fun l hl => kept_sepS hg.grown (h.gs.ls.own l hl) (h.gs.sepv l hl))
  have hget : ∀ l (hl : l < (gl ++ [c]).length), (∃ hl' : l < gl.length, (gl ++ [c])[l] = gl[l]) ∨ (l = gl.length ∧ (gl ++ [c])[l] = c) := by
    intro l hl
    rcases Nat.lt_or_ge l gl.length with h' | h'
    · left; exact ⟨h', List.getElem_append_left h'⟩
    · right
      have : l = gl.length := by simp at hl; omega
      subst this
      exact ⟨rfl, by simp⟩
  refine ⟨hls, ?_, ?_, ?_, ?_, ?_, ?_, ?_⟩
  · intro l hl
    rcases hget l hl with ⟨hl', e⟩ | ⟨rfl, e⟩
    · rw [e]; exact kept_sepS hg.grown (h.gs.gown l hl') (h.gs.sepg l hl')
    · rw [e]; exact kept_sepS hg.grown h.own h.seps.symm
  · have := hg.own
    simpa using this
  · intro l hl; exact sep_grewS hg (h.gs.ls.own l hl) (h.gs.sepv l hl)
  · intro l hl
    rcases hget l hl with ⟨hl', e⟩ | ⟨rfl, e⟩
    · rw [e]; exact sep_grewS hg (h.gs.gown l hl') (h.gs.sepg l hl')
    · rw [e]; exact sep_grewS hg h.own h.seps.symm
  · intro l hl m hm hne
    rcases hget l hl with ⟨hl', e⟩ | ⟨rfl, e⟩
    · rw [e]; exact h.gs.sepo l hl' m hm hne
    · rw [e]; exact h.sepv m hm hne
  · rcases hg.place with hp | ⟨b, hp, hb⟩
    · rw [hp]; exact h.gs.off
    · rw [hp]; intro e; simp only [Option.some.injEq] at e; have := h.gs.ls.lt; omega
  · intro b hb
    rcases hg.place with hp | ⟨c, hp, hc⟩
    · rw [hp] at hb; exact h.gs.gpl b hb
    · rw [hp, Option.some.injEq] at hb; omega

theorem info_rowsY : (Tryd.prog.info? 23).map (fun i => (i.zero, i.size, i.bytes)) = some (some (.slice none 0 0), 1, 24) := by kernel_rfl
end Pk
end Go.Proofs.YtjnodkjeiogloaaDoor
/- ApartBytes answers true of lists that lie in blocks of their own, and turns nothing else. -/
namespace Go.Proofs.YtjnodkjeiogloaaDoor
set_option linter.ambiguousOpen false
open Go.RowKit
namespace Pk
open Sm Ft
set_option linter.unusedSimpArgs false
set_option linter.unusedVariables false

theorem markY_any (k i : Nat) (hk : k < 4000000) (hi : i < 1099511627776) (w : World) :
    Calls Tryd.prog 31 #[nu k, nu i] w fun e w' => e = .returned ((Value.int .u8 (mkI k i))) ∧ Below w.heap.size w w' := by
  unfold mkI
  go_enter Tryd.func31, Tryd.ntmps31
  go_wp2
  go_ret
  exact ⟨rfl, Below.refl _ _⟩

theorem markY_at (k i : Int) (k' i' : Nat) (ek : k = k') (ei : i = i') (hk : k' < 4000000) (hi : i' < 1099511627776) (w : World) :
    Calls Tryd.prog 31 #[nu k, nu i] w fun e w' => e = .returned ((Value.int .u8 (mkI k' i'))) ∧ Below w.heap.size w w' := by
  subst ek ei; exact markY_any k' i' hk hi w

theorem rows_cell {w : World} {base : Nat} {gl : List Value} {gg cg n : Nat} (h : w.ownsRow base 23 1 (.slice (some ⟨gg, 0, none⟩) n cg) n gl) (hn : gl.length = n) (k : Nat) (hk : k < gl.length) : w.cell? ⟨gg, k, none⟩ = some gl[k] := by
  obtain ⟨⟨u, h1, h2⟩, _⟩ := own_cellS h k (by omega)
  rw [List.getElem?_eq_getElem hk] at h1
  rw [h2, ← h1]

theorem mark_cellY {w : World} {base : Nat} {g c k n : Nat} (h : w.ownsRow base 5 1 (.slice (some ⟨g, 0, none⟩) n c) n (marksY k n)) (i : Nat) (hi : i < n) : w.cell? ⟨g, i, none⟩ = some ((Value.int .u8 (mkI k i))) := by
  obtain ⟨⟨u, h1, h2⟩, _⟩ := own_cellS h i (by omega)
  rw [marksY_at k n i hi] at h1
  rw [h2, ← h1]

theorem below_fromR {w a b : World} (h : Below w.heap.size w a) (k : Below a.heap.size a b) : Below w.heap.size w b := h.trans (k.mono h.size)

theorem keep_more {F : Nat → Prop} {w a b : World} (h : Keep F w a) (k : Below a.heap.size a b) : Keep F w b := h.trans (Keep.of_below (F := fun _ => False) k) (fun _ _ hf => hf.elim)

set_option maxRecDepth 1000000 in
set_option maxHeartbeats 4000000 in
theorem apartY_l (vs : List Value) (ln : Nat → Nat) (base L cap0 : Nat) (f0 : Nat → List Value) (w : World) (hL : LsR w base L vs ln f0) (ha : ApartR L vs) (hn : vs.length < 4000000) (hln : ∀ l, ln l < 1000000000) (hc0 : vs.length ≤ cap0) (hc1 : cap0 ≤ maxLen) :
    Calls Tryd.prog 54 #[.slice (some ⟨L, 0, none⟩) vs.length cap0] w fun e w' => e = .returned (.bool true) ∧ Keep (Wb vs) w w' ∧ ∃ f, LsR w' base L vs ln f := by
  unfold maxLen at hc1
  have HLN : Hid (∀ l, ln l < 1000000000) := hln
  have HA : Hid (ApartR L vs) := ha
  have HL0 : Hid (LsR w base L vs ln f0) := hL
  clear hln ha hL
  go_enter Tryd.func54, Tryd.ntmps54
  go_wp2
  go_loopw [3, 4] (fun kv _ wr => ∃ (k : Nat) (f : Nat → List Value), k ≤ vs.length ∧ kv = .int .i64 k ∧ Hid (LsR wr base L vs ln f) ∧ Hid (∀ l, l < k → f l = marksY l (ln l)) ∧ Hid (Keep (Wb vs) w wr)) (fun kv _ _ => vs.length - (intOf kv).toNat)
  case atStart => exact ⟨0, f0, Nat.zero_le _, rfl, HL0, fun l h => by omega, Keep.refl _ _⟩
  case round =>
    obtain ⟨k, f, hk, rfl, hls, hf, hb⟩ := hrel
    by_cases hkn : k < vs.length
    · go_wp2
      rename World => w1
      go_loopw [4] (fun iv wr => ∃ (i : Nat) (f : Nat → List Value), i ≤ ln k ∧ iv = .int .i64 i ∧ Hid (LsR wr base L vs ln f) ∧ Hid (∀ l, l < k → f l = marksY l (ln l)) ∧ Hid ((f k).take i = marksY k i) ∧ Hid (Keep (Wb vs) w wr)) (fun iv _ => ln k - (intOf iv).toNat)
      case atStart => exact ⟨0, f, Nat.zero_le _, rfl, hls, hf, rfl, hb⟩
      case round =>
        clear hls hf hb
        clear f
        obtain ⟨i, f, hi, rfl, hls, hf, hfk, hb⟩ := hrel
        obtain ⟨a, cap, hv, hcap, hmax, hg⟩ := Nm.own_shape (hls.out.own k hkn)
        have hlnk := HLN.out k
        have hcell : wr.cell? ⟨L, k, none⟩ = some (.slice a (ln k) cap) := by rw [← hv]; exact hls.out.cell k hkn
        unfold maxLen at hmax
        by_cases hin : i < ln k
        · obtain ⟨g, rfl⟩ := hg (by omega)
          have HV : Hid (vs[k] = .slice (some ⟨g, 0, none⟩) (ln k) cap) := hv
          clear hv hg
          go_upto_block 3 with fail
          go_cut [] from 18 to 35 (fun wr => ∃ (f : Nat → List Value), Hid (LsR wr base L vs ln f) ∧ Hid (∀ l, l < k → f l = marksY l (ln l)) ∧ Hid ((f k).take (i + 1) = marksY k (i + 1)) ∧ Hid (Keep (Wb vs) w wr))
          case first =>
            go_wp2_with fail
            go_region_with (go_at_call 31; refine (markY_any _ _ (by omega) (by omega) _).mono ?_; rintro e w5 ⟨rfl, q5⟩; have q6 := below_fromR (w := wr) (by repeat (first | exact Below.refl _ _ | apply Below.drew)) q5; obtain ⟨u, hcu, hfz, hc5⟩ := store_factsR hls.out hkn HV.out hin q6)
            all_goals (go_wp2_with fail; go_meet; exact store_stepR hls.out HA.out hkn HV.out hin q6 hf.out hfk.out hb.out)
          case rest =>
            obtain ⟨f', hls', hf', hfk', hb'⟩ := hcut
            clear hls hf hfk hb hcell
            go_wp2
            go_roundw
            case rel => exact ⟨i + 1, f', by omega, by go_num, hls', hf', hfk', hb'⟩
            case measure => simp [intOf]; omega
        · have hfull : Hid (∀ l, l < k + 1 → f l = marksY l (ln l)) := by
            intro l hl
            rcases Nat.lt_or_ge l k with h' | h'
            · exact hf.out l h'
            · have e : l = k := by omega
              subst e
              have hlen : (f l).length = ln l := by have := (hls.out.own l hkn).1; omega
              have := hfk.out
              have hil : i = ln l := by omega
              rw [hil, List.take_of_length_le (by omega)] at this
              exact this
          clear hv hg
          go_wp2
          go_roundw
          case rel => exact ⟨k + 1, f, by omega, by go_num, hls, hfull, hb⟩
          case measure => simp [intOf]; omega
    · have hall : Hid (LsR wr base L vs ln (fun l => marksY l (ln l))) := by
        have h := hls.out
        exact ⟨fun l hl => by have := h.own l hl; rw [hf.out l (by omega)] at this; exact this, h.cell, h.lt, h.le⟩
      clear hls hf
      clear f
      obtain ⟨i0, hi, hz0, hz1, hz2⟩ := info_parts info_byte
      obtain ⟨j0, hj, hy0, hy1, hy2⟩ := info_parts info_rowsY
      have hgs0 : Hid (GsR w wr base L vs ln [] (.slice none 0 0)) :=
        ⟨hall.out, fun l h => by simp at h, World.ownsRow_nil _ _ _ _, fun l h => Nm.Sep.nil _, fun l h => by simp at h, fun l h => by simp at h, by simp [Value.ownBlock], fun b h => by simp [Value.ownBlock] at h⟩
      clear hall
      go_wp2
      go_loopw [5, 6] (fun gv kv wr => ∃ (gl : List Value), gl.length ≤ vs.length ∧ kv = .int .i64 gl.length ∧ Hid (GsR w wr base L vs ln gl gv) ∧ Hid (Keep (Wb vs) w wr)) (fun _ kv _ => vs.length - (intOf kv).toNat)
      case atStart => exact ⟨[], Nat.zero_le _, rfl, hgs0, hb⟩
      case round =>
        clear hkn hk hgs0 hb
        obtain ⟨gl, hk, rfl, hgs, hb⟩ := hrel
        by_cases hkn : gl.length < vs.length
        · obtain ⟨a, cap, hv, hcap, hmax, hg⟩ := Nm.own_shape (hgs.out.ls.own _ hkn)
          have hlnk := HLN.out gl.length
          have hcell : wr.cell? ⟨L, gl.length, none⟩ = some (.slice a (ln gl.length) cap) := by rw [← hv]; exact hgs.out.ls.cell _ hkn
          unfold maxLen at hmax
          have hcur : Hid (CurR w wr base L vs ln gl u5 0 (.slice a (ln gl.length) cap)) := by rw [← hv]; exact CurR.start hgs.out HA.out hkn
          have HV : Hid (vs[gl.length] = .slice a (ln gl.length) cap) := hv
          clear hv hg hgs
          go_wp2
          go_loopw [7, 8] (fun cv iv wr => ∃ (i : Nat), i ≤ 64 ∧ iv = .int .i64 i ∧ Hid (CurR w wr base L vs ln gl u5 i cv) ∧ Hid (Keep (Wb vs) w wr)) (fun _ iv _ => 64 - (intOf iv).toNat)
          case atStart => exact ⟨0, by omega, rfl, hcur, hb⟩
          case round =>
            clear hcur hb hcell
            obtain ⟨i, hi64, rfl, hcur, hb⟩ := hrel
            have hcell : wr.cell? ⟨L, gl.length, none⟩ = some (.slice a (ln gl.length) cap) := by rw [← HV.out]; exact hcur.out.gs.ls.cell _ hkn
            by_cases hin : i < 64
            · go_wp2_with fail
              refine (markY_at _ _ gl.length (ln gl.length + i) rfl (by omega) (by omega) (by omega) _).mono ?_
              rintro e w5 ⟨rfl, q5⟩
              have hcur5 : CurR w w5 base L vs ln gl u5 i u7 := hcur.out.below q5
              have hle5 : base ≤ w5.heap.size := hcur5.gs.ls.le
              have hb5 : Hid (Keep (Wb vs) w w5) := keep_more hb.out q5
              have HC5 : Hid (CurR w w5 base L vs ln gl u5 i u7) := hcur5
              have howna := hcur5.own.alloc (.cells #[(Value.int .u8 (mkI gl.length (ln gl.length + i)))] 5)
              clear hcur5 hcell hcur hb
              go_wp2_with (at_builtin; refine Nm.wpList_append_keep _ rfl _ _ 23 rfl base 5 i0 (.int .u8 0) 1 1 Tryd.underlying23 hi hz0 hz1 hz2 rfl (by decide) _ _ _ rfl howna ⟨w5.heap.size, 0, none⟩ 1 1 [(Value.int .u8 (mkI gl.length (ln gl.length + i)))] rfl rfl ?c1 ?c2 ?c3 ?c4 ?c5 (by decide) ?_)
              case c1 => exact cell_one_new _ _ _
              case c2 => intro u hu; simp at hu; subst hu; rfl
              case c3 => unfold maxLen; omega
              case c4 => omega
              case c5 => simp; omega
              intro v' w6 hgrew
              have hal : Below w5.heap.size w5 (w5.alloc (.cells #[(Value.int .u8 (mkI gl.length (ln gl.length + i)))] 5)) := (Below.refl _ _).alloc (Nat.le_refl _) _
              have hkA := keep_more hb5.out hal
              have hcur6 : Hid (CurR w w6 base L vs ln gl u5 (i + 1) v') := CurR.step (HC5.out.below hal) hkA.size hgrew
              have hb6 : Hid (Keep (Wb vs) w w6) := Keep.grown hkA hgrew.grown (fun b hb => HC5.out.cpl b hb)
              clear hgrew howna HC5 hb5 hal hkA
              go_wp2
              go_roundw
              case rel => exact ⟨i + 1, by omega, by go_num, hcur6, hb6⟩
              case measure => simp [intOf]; omega
            · have hi2 : i = 64 := by omega
              subst hi2
              have hle5 : base ≤ wr.heap.size := hcur.out.gs.ls.le
              obtain ⟨ac, cc, hu7, _, _, _⟩ := Nm.own_shape hcur.out.own
              subst hu7
              have hrow := hcur.out.gs.row.alloc (.cells #[.slice ac (ln gl.length + 64) cc] 23)
              clear hcell
              go_wp2_with (at_builtin; refine Nm.wpList_append_keep _ rfl _ _ 50 rfl base 23 j0 (.slice none 0 0) 1 24 Tryd.underlying50 hj hy0 hy1 hy2 rfl (by decide) _ _ _ rfl hrow ⟨wr.heap.size, 0, none⟩ 1 1 [.slice ac (ln gl.length + 64) cc] rfl rfl ?c1 ?c2 ?c3 ?c4 ?c5 (by decide) ?_)
              case c1 => exact cell_one_new _ _ _
              case c2 => intro u hu; simp at hu; subst hu; rfl
              case c3 => unfold maxLen; omega
              case c4 => omega
              case c5 => simp; omega
              intro v' w6 hgrew
              have hal : Below wr.heap.size wr (wr.alloc (.cells #[.slice ac (ln gl.length + 64) cc] 23)) := (Below.refl _ _).alloc (Nat.le_refl _) _
              have hkA := keep_more hb.out hal
              have hgs6 : Hid (GsR w w6 base L vs ln (gl ++ [.slice ac (ln gl.length + 64) cc]) v') := GsR.step (hcur.out.below hal) hkA.size hgrew
              have hb6 : Hid (Keep (Wb vs) w w6) := Keep.grown hkA hgrew.grown (fun b hb => .inr (hcur.out.gs.gpl b hb))
              clear hgrew hrow hal hcur hb hkA
              go_wp2
              go_roundw
              case rel => exact ⟨gl ++ [.slice ac (ln gl.length + 64) cc], by simp; omega, by simp, hgs6, hb6⟩
              case measure => simp [intOf]; omega
        · have hgl : gl.length = vs.length := by omega
          have HGL : Hid (gl.length = vs.length) := hgl
          clear hgl
          go_wp2
          clear hkn hk
          go_loopw [9] (fun kv wr => ∃ (k : Nat), k ≤ vs.length ∧ kv = .int .i64 k ∧ Hid (GsR w wr base L vs ln gl u5) ∧ Hid (Keep (Wb vs) w wr)) (fun kv _ => vs.length - (intOf kv).toNat)
          case atStart => exact ⟨0, Nat.zero_le _, rfl, hgs, hb⟩
          case round =>
            obtain ⟨ag, cg, hu5, hg1, hg2, hg3⟩ := Nm.own_shape hgs.out.row
            subst hu5
            clear hgs hb
            obtain ⟨k2, hk, rfl, hgs, hb⟩ := hrel
            unfold maxLen at hg2
            by_cases hkn : k2 < vs.length
            · have hkg : k2 < gl.length := by have := HGL.out; omega
              obtain ⟨gg, rfl⟩ := hg3 (by omega)
              obtain ⟨a2, c2, hs1, hs2, hs3, hs4⟩ := Nm.own_shape (hgs.out.gown k2 hkg)
              obtain ⟨g2, rfl⟩ := hs4 (by omega)
              have HS1 : Hid (gl[k2] = .slice (some ⟨g2, 0, none⟩) (ln k2 + 64) c2) := hs1
              obtain ⟨a1, c1, hv1, hv2, hv3, hv4⟩ := Nm.own_shape (hgs.out.ls.own k2 hkn)
              have HV1 : Hid (vs[k2] = .slice a1 (ln k2) c1) := hv1
              have HV4 : Hid (0 < ln k2 → ∃ g, a1 = some ⟨g, 0, none⟩) := hv4
              have hlnk := HLN.out k2
              clear hs1 hs4 hv1 hg3 hv4
              unfold maxLen at hs3 hv3
              go_wp2
              go_loopw [10] (fun iv wr => ∃ (i : Nat), i ≤ ln k2 + 64 ∧ iv = .int .i64 i ∧ Hid (GsR w wr base L vs ln gl (.slice (some ⟨gg, 0, none⟩) gl.length cg)) ∧ Hid (Keep (Wb vs) w wr)) (fun iv _ => ln k2 + 64 - (intOf iv).toNat)
              case atStart => exact ⟨0, Nat.zero_le _, rfl, hgs, hb⟩
              case round =>
                clear hgs hb
                obtain ⟨i, hi64, rfl, hgs, hb⟩ := hrel
                have hc1 : wr.cell? ⟨gg, k2, none⟩ = some (.slice (some ⟨g2, 0, none⟩) (ln k2 + 64) c2) := by
                  rw [← HS1.out]; exact rows_cell hgs.out.row rfl k2 hkg
                by_cases hin : i < ln k2 + 64
                · go_wp2_with fail
                  refine (markY_any _ _ (by omega) (by omega) _).mono ?_
                  rintro e w5 ⟨rfl, q5⟩
                  have hgs5 : Hid (GsR w w5 base L vs ln gl (.slice (some ⟨gg, 0, none⟩) gl.length cg)) := hgs.out.below q5
                  have hb5 : Hid (Keep (Wb vs) w w5) := keep_more hb.out q5
                  clear hgs hb hc1
                  have hc1 : w5.cell? ⟨gg, k2, none⟩ = some (.slice (some ⟨g2, 0, none⟩) (ln k2 + 64) c2) := by
                    rw [← HS1.out]; exact rows_cell hgs5.out.row rfl k2 hkg
                  have hc2 : w5.cell? ⟨g2, i, none⟩ = some ((Value.int .u8 (mkI k2 i))) := mark_cellY (by rw [← HS1.out]; exact hgs5.out.gown k2 hkg) i hin
                  have hc3 : w5.cell? ⟨L, k2, none⟩ = some (.slice a1 (ln k2) c1) := by rw [← HV1.out]; exact hgs5.out.ls.cell k2 hkn
                  generalize hms : mkI k2 i = mm at *
                  by_cases hil : i < ln k2
                  · obtain ⟨g1, rfl⟩ := HV4.out (by omega)
                    have hc4 : w5.cell? ⟨g1, i, none⟩ = some (.int .u8 mm) := by
                      rw [← hms]; exact mark_cellY (by rw [← HV1.out]; exact hgs5.out.ls.own k2 hkn) i hil
                    clear hms
                    go_wp2
                    go_roundw
                    case rel => exact ⟨i + 1, by omega, by go_num, hgs5, hb5⟩
                    case measure => simp [intOf]; omega
                  · clear hms
                    go_wp2
                    go_roundw
                    case rel => exact ⟨i + 1, by omega, by go_num, hgs5, hb5⟩
                    case measure => simp [intOf]; omega
                · go_wp2
                  go_roundw
                  case rel => exact ⟨k2 + 1, by omega, by go_num, hgs, hb⟩
                  case measure => simp [intOf]; omega
            · go_wp2
              go_ret
              exact ⟨rfl, hb.out, _, hgs.out.ls⟩
end Pk
end Go.Proofs.YtjnodkjeiogloaaDoor
/- What RecordScans holds side by side: the lists that were handed out, the iterator's own, the marks of loops. -/
namespace Go.Proofs.YtjnodkjeiogloaaDoor
set_option linter.ambiguousOpen false
open Go.RowKit
namespace Rc
open Sm Pk Ft
set_option linter.unusedSimpArgs false
set_option linter.unusedVariables false
attribute [local go_sem] Oper.semAt_some

/-- A value's block lies ahead of lo, or from hi on. -/
def Out (lo hi : Nat) (v : Value) : Prop := ∀ b, v.ownBlock = some b → b < lo ∨ hi ≤ b

/-- The lists alone, ahead of the iterator. -/
structure Pt (W WK : World) (M B : Nat) (v : Value) (us : List Value) (qs : List (List UInt8)) : Prop where
  bel : Below WK.heap.size WK W
  box : Boxed W B 50 v
  row : W.ownsRow WK.heap.size 23 1 v us.length us
  pays : Rows W M us qs

theorem Pt.below {W W' WK : World} {M B : Nat} {v : Value} {us : List Value} {qs : List (List UInt8)} (h : Pt W WK M B v us qs) (hb : Below W.heap.size W W') : Pt W' WK M B v us qs :=
  ⟨h.bel.trans (hb.mono h.bel.size), (hb.block _ h.box.lt).trans h.box, own_keptB h.row hb, h.pays.below hb⟩

/-- A payload that lay there is laid into the lists. -/
theorem Pt.push {W WK w1 : World} {M B H : Nat} {v u v' : Value} {us : List Value} {p : List UInt8} {qs : List (List UInt8)} (h : Pt W WK M B v us qs) (hu : Rows W M (us ++ [u]) (qs ++ [p])) (hKB : WK.heap.size ≤ B)
    (ho : w1.ownsRow WK.heap.size 23 1 v' (us.length + 1) (us ++ [u])) (hg : W.grownBy w1 v.ownBlock) : Boxed w1 B 50 v ∧ Pt (w1.setCell ⟨B, 0, none⟩ v') WK M B v' (us ++ [u]) (qs ++ [p]) := by
  have hbx1 : Boxed w1 B 50 v := h.box.kept hg (h.box.not_row (by decide) h.row)
  have hr1 : Rows w1 M (us ++ [u]) (qs ++ [p]) := hu.kept hg (fun y hy => by
    obtain ⟨q, hq⟩ := hu.at_ hy
    exact sep_keptR (own_sep h.row hq (by decide)))
  have hbl1 : Below WK.heap.size WK w1 := h.bel.grown hg h.bel.size (fun r e => (h.row.lt r e).1)
  have hs := grownBy_setCell' w1 B v'
  have nr : ∀ {base : Nat} {e : TypeId} {s n : Nat} {x : Value} {xs : List Value}, w1.ownsRow base e s x n xs → 50 ≠ e → x.ownBlock = none ∨ x.ownBlock ≠ some B := fun ho' hte => by
    have := hbx1.not_row hte ho'
    cases hx : (_ : Value).ownBlock with
    | none => exact .inl rfl
    | some b => exact .inr (fun e => this (by rw [hx]; exact e.symm))
  refine ⟨hbx1, ⟨hbl1.setCell (p := ⟨B, 0, none⟩) hKB v', hbx1.set v', ?_, hr1.kept hs (fun y hy => ?_)⟩⟩
  · rw [List.length_append]
    exact ho.kept hs (nr ho (by decide))
  · obtain ⟨q, hq⟩ := hr1.at_ hy
    exact nr hq (by decide)

/-- The first of some rows. -/
theorem Rows.take {w : World} {base : Nat} {vs : List Value} {ps : List (List UInt8)} (h : Rows w base vs ps) (i : Nat) : Rows w base (vs.take i) (ps.take i) := by
  refine ⟨by rw [List.length_take, List.length_take, h.len], fun k v p hv hp => ?_, fun j k u v hne hu hv => ?_⟩
  · rw [List.getElem?_take] at hv hp
    split at hv
    · rw [if_pos (by assumption)] at hp
      exact h.own k v p hv hp
    · cases hv
  · rw [List.getElem?_take] at hu hv
    split at hu
    · split at hv
      · exact h.apart j k u v hne hu hv
      · cases hv
    · cases hu

/-- The state. -/
structure St (W WK : World) (M B ep : Nat) (ls : List (List UInt8)) (Be Bl : Nat) (cv : Value) (Ds : List Nat) (v : Value) (us : List Value) (qs : List (List UInt8)) : Prop where
  bel : Below WK.heap.size WK W
  box : Boxed W B 50 v
  row : W.ownsRow WK.heap.size 23 1 v us.length us
  pays : Rows W M us qs
  seq : Pr.Base3 W ep ls Be Bl cv
  cvr : W.ownsRow WK.heap.size 9 1 cv ls.length (ls.map Nm.txt)
  op : Rf.Open WK.heap.size Ds W

section
variable {W W' WK : World} {M B ep : Nat} {ls : List (List UInt8)} {Be Bl : Nat} {cv : Value} {Ds : List Nat} {v : Value} {us : List Value} {qs : List (List UInt8)}

theorem St.below (h : St W WK M B ep ls Be Bl cv Ds v us qs) (hb : Below W.heap.size W W') : St W' WK M B ep ls Be Bl cv Ds v us qs :=
  ⟨h.bel.trans (hb.mono h.bel.size), (hb.block _ h.box.lt).trans h.box, own_keptB h.row hb, h.pays.below hb, h.seq.below hb, own_keptB h.cvr hb, h.op.below hb (Nat.le_refl _)⟩

/-- All that it speaks of lies ahead of the heap's end. -/
theorem St.outs (h : St W WK M B ep ls Be Bl cv Ds v us qs) (hi : Nat) : Out W.heap.size hi v ∧ ∀ u ∈ us, Out W.heap.size hi u := by
  refine ⟨fun b hb => .inl (h.row.lt b hb).2, fun u hu b hb => .inl ?_⟩
  obtain ⟨p, hp⟩ := h.pays.at_ hu
  exact (hp.lt b hb).2

theorem own_ne {base : Nat} {e : TypeId} {s n : Nat} {x : Value} {xs : List Value} {row : Option Nat} (h : W.ownsRow base e s x n xs) (hr : ∀ b, x.ownBlock = some b → row ≠ some b) : x.ownBlock = none ∨ x.ownBlock ≠ row := by
  cases hx : x.ownBlock with
  | none => exact .inl rfl
  | some b => exact .inr (fun e => hr b hx e.symm)

/-- One block turns: none that it speaks of. -/
theorem St.grown {row : Option Nat} (h : St W WK M B ep ls Be Bl cv Ds v us qs) (hg : W.grownBy W' row) (hK : ∀ r, row = some r → WK.heap.size ≤ r) (hB : row ≠ some B) (he : row ≠ some Be) (hl : row ≠ some Bl) (hc : ∀ b, cv.ownBlock = some b → row ≠ some b) (hD : ∀ D ∈ Ds, row ≠ some D)
    (hv : ∀ b, v.ownBlock = some b → row ≠ some b) (hu : ∀ u ∈ us, ∀ b, u.ownBlock = some b → row ≠ some b) : St W' WK M B ep ls Be Bl cv Ds v us qs := by
  have hcv := h.cvr.kept hg (own_ne h.cvr hc)
  refine ⟨h.bel.grown hg h.bel.size hK, h.box.kept hg (Ne.symm hB), h.row.kept hg (own_ne h.row hv), h.pays.kept hg (fun u hu' => ?_), ⟨h.seq.e.kept hg (Ne.symm he), h.seq.l.kept hg (Ne.symm hl), Nm.rd_own hcv⟩, hcv, h.op.kept (fun D hD' => hg.block D (h.op.lt D hD') (fun e => hD D hD' e.symm))⟩
  obtain ⟨p, hp⟩ := h.pays.at_ hu'
  exact own_ne hp (hu u hu')

theorem away_own {lo hi : Nat} {base : Nat} {e : TypeId} {s n : Nat} {x : Value} {xs : List Value} {row : Option Nat} (h : W.ownsRow base e s x n xs) (ho : Out lo hi x) (hr : Rf.Away lo hi W row) : ∀ b, x.ownBlock = some b → row ≠ some b := fun b hb e => by
  obtain ⟨h1, h2⟩ := hr b e
  rcases ho b hb with q | q
  · omega
  · rcases h2 with h2 | ⟨o, ho', hc⟩
    · omega
    · rcases h.2 with ⟨rfl, _⟩ | ⟨g, cap, cur, rfl, _, hg, _⟩
      · simp [Value.ownBlock] at hb
      · obtain rfl : g = b := by simpa [Value.ownBlock] using hb
        rw [hg] at ho'
        cases ho'
        cases hc

theorem St.rest {lo hi : Nat} {row : Option Nat} (h : St W WK M B ep ls Be Bl cv Ds v us qs) (hov : Out lo hi v) (hou : ∀ u ∈ us, Out lo hi u) (hlo : WK.heap.size ≤ lo) (hB : B < lo) (he : Be < lo) (hl : Bl < lo) (hc : ∀ b, cv.ownBlock = some b → b < lo) (hD : ∀ D ∈ Ds, D < lo) (hg : W.grownBy W' row) (hr : Rf.Away lo hi W row) : St W' WK M B ep ls Be Bl cv Ds v us qs := by
  have ne : ∀ b, b < lo → row ≠ some b := fun b hb e => by have := (hr b e).1; omega
  refine h.grown hg (fun r e => by have := (hr r e).1; omega) (ne _ hB) (ne _ he) (ne _ hl) (fun b hb => ne _ (hc b hb)) (fun D hD' => ne _ (hD D hD')) (away_own h.row hov hr) (fun u hu => ?_)
  obtain ⟨p, hp⟩ := h.pays.at_ hu
  exact away_own hp (hou u hu) hr

/-- A box of another thing is set. -/
theorem St.set {b : Nat} {t : TypeId} {x : Value} (h : St W WK M B ep ls Be Bl cv Ds v us qs) (hb : Boxed W b t x) (y : Value) (hK : WK.heap.size ≤ b) (hB : b ≠ B) (he : b ≠ Be) (hl : b ≠ Bl) (t1 : t ≠ 9) (t2 : t ≠ 23) (t3 : t ≠ 5) : St (W.setCell ⟨b, 0, none⟩ y) WK M B ep ls Be Bl cv Ds v us qs := by
  have ow : ∀ {base : Nat} {e : TypeId} {s n : Nat} {x : Value} {xs : List Value}, W.ownsRow base e s x n xs → t ≠ e → ∀ c, x.ownBlock = some c → some b ≠ some c := fun ho hte c hc e => by
    have := hb.not_row hte ho
    rw [hc] at this
    exact this e
  refine h.grown (grownBy_setCell' W b y) (fun r e => by cases e; exact hK) (by simpa using hB) (by simpa using he) (by simpa using hl) (ow h.cvr t1) (fun D hD e => ?_) (ow h.row t2) (fun u hu => ?_)
  · cases e
    have h1 := (h.op.2 b hD).2
    rw [show W.heap[b]? = _ from hb] at h1
    cases h1
  · obtain ⟨p, hp⟩ := h.pays.at_ hu
    exact ow hp t3

theorem wpListIn_append_at {F : Fence} {m' : Nat} {ops : Array Oper} {rest : List Oper} {o : Oper} {a : Act} {Q : Exit → Act → World → Prop} (hg : o.guard = none) (s x : Operand) (hop : o.op = Op.call { callee := Callee.builtin Builtin.append, args := #[s, x], argTypes := #[50, 50] })
    (base : Nat) (i : TypeInfo) (h2 : Tryd.prog.info? 23 = some i) (h3 : i.zero = some (.slice none 0 0)) (h4 : i.size = 1) (h5 : i.bytes = 24) (v u : Value) (k : Nat) (xs : List Value) (hs : a.eval s = v) (hown : W.ownsRow base 23 1 v k xs) (H : Nat) (hx : a.eval x = .slice (some ⟨H, 0, none⟩) 1 1)
    (hc : ∀ j y, [u][j]? = some y → W.cell? ((⟨H, 0, none⟩ : Addr).add j) = some y) (hu : u.oneCell' = true) (b1 : k + 1 ≤ maxLen) (b2 : (k + 1) * 24 ≤ 140737488355328) (b3 : base ≤ W.heap.size)
    (hK : ∀ v' w', w'.ownsRow base 23 1 v' (k + 1) (xs ++ [u]) → W.grownBy w' v.ownBlock → (v'.ownBlock = v.ownBlock ∨ v'.ownBlock = some W.heap.size) → wpListIn F m' Tryd.prog ops Q rest (a.put o.dst v') w') :
    wpListIn F m' Tryd.prog ops Q (o :: rest) a W := by
  refine wpListIn_plain hg fun K hK' => ?_
  obtain ⟨v', w', hrun, r1, r2, _, r4⟩ := run_append_own_at (P := Tryd.prog) W base 50 o.type 23 i (.slice none 0 0) 1 24 Tryd.underlying50 h2 h3 h4 h5 rfl (by decide) v k xs hown ⟨H, 0, none⟩ 1 1 [u] rfl hc (fun y hy => by simp at hy; subst hy; exact hu) b1 b2 b3
  unfold Oper.wpIn
  refine ⟨?_, ?_⟩
  · simp [Oper.about, hop, resolve, Target.leads, Sem.run_pure]
  · rw [Oper.semAt_plain F _ _ (by rw [hop]; intro c hc'; cases hc')]
    simp [execOp, hop, resolve, invoke, builtin, hs, hx, hrun, Result.andThen]
    exact hK' _ _ (hK v' w' r1 r2 r4)

/-- A payload more is laid into the lists. -/
theorem St.push {w1 : World} {u v' : Value} {p : List UInt8} {H : Nat} {tmp : Obj} (h : St W WK M B ep ls Be Bl cv Ds v us qs) (hu : W.ownsRow H 5 1 u p.length (p.map by1)) (hlt : ∀ y ∈ us, ∀ b, y.ownBlock = some b → b < H) (hMH : M ≤ H) (hKB : WK.heap.size ≤ B) (hBe : B ≠ Be) (hBl : B ≠ Bl)
    (ho : w1.ownsRow WK.heap.size 23 1 v' (us.length + 1) (us ++ [u])) (hg : (W.alloc tmp).grownBy w1 v.ownBlock) (hp : v'.ownBlock = v.ownBlock ∨ v'.ownBlock = some (W.alloc tmp).heap.size) :
    Boxed w1 B 50 v ∧ St (w1.setCell ⟨B, 0, none⟩ v') WK M B ep ls Be Bl cv Ds v' (us ++ [u]) (qs ++ [p]) := by
  have hb0 : Below W.heap.size W (W.alloc tmp) := (Below.refl _ _).alloc (Nat.le_refl _) _
  have h0 := h.below hb0
  have hu0 := own_keptB hu hb0
  have hr0 : Rows (W.alloc tmp) M (us ++ [u]) (qs ++ [p]) := h0.pays.snoc hu0 hMH hlt
  have hbx1 : Boxed w1 B 50 v := h0.box.kept hg (h0.box.not_row (by decide) h0.row)
  have hcv1 : w1.ownsRow WK.heap.size 9 1 cv ls.length (ls.map Nm.txt) := h0.cvr.kept hg (sep_keptR (own_sep h0.row h0.cvr (by decide)))
  have hr1 : Rows w1 M (us ++ [u]) (qs ++ [p]) := hr0.kept hg (fun y hy => by
    obtain ⟨q, hq⟩ := hr0.at_ hy
    exact sep_keptR (own_sep h0.row hq (by decide)))
  have nb : ∀ {b : Nat} {t : TypeId} {x : Value}, Boxed (W.alloc tmp) b t x → t ≠ 23 → some b ≠ v.ownBlock := fun hb ht => hb.not_row ht h0.row
  have he1 := h0.seq.e.kept hg (nb h0.seq.e (by decide))
  have hl1 := h0.seq.l.kept hg (nb h0.seq.l (by decide))
  have hop1 : Rf.Open WK.heap.size Ds w1 := h0.op.kept (fun D hD => hg.block D (h0.op.lt D hD) (fun e => by
    rcases h0.row.2 with ⟨rfl, _⟩ | ⟨g, cap, cur, rfl, _, hgb, _⟩
    · simp [Value.ownBlock] at e
    · obtain rfl : D = g := by simpa [Value.ownBlock] using e
      have h1 := (h0.op.2 D hD).2
      rw [hgb] at h1
      cases h1))
  have hbl1 : Below WK.heap.size WK w1 := h0.bel.grown hg h0.bel.size (fun r e => (h0.row.lt r e).1)
  have hs := grownBy_setCell' w1 B v'
  have nr : ∀ {base : Nat} {e : TypeId} {s n : Nat} {x : Value} {xs : List Value}, w1.ownsRow base e s x n xs → 50 ≠ e → x.ownBlock = none ∨ x.ownBlock ≠ some B := fun ho' hte => by
    have := hbx1.not_row hte ho'
    cases hx : (_ : Value).ownBlock with
    | none => exact .inl rfl
    | some b => exact .inr (fun e => this (by rw [hx]; exact e.symm))
  refine ⟨hbx1, ⟨hbl1.setCell (p := ⟨B, 0, none⟩) hKB v', hbx1.set v', ?_, hr1.kept hs (fun y hy => ?_), ⟨he1.other (Ne.symm hBe) v', hl1.other (Ne.symm hBl) v', ?_⟩, hcv1.kept hs (nr hcv1 (by decide)), hop1.kept (fun D hD => ?_)⟩⟩
  · rw [List.length_append]
    exact ho.kept hs (nr ho (by decide))
  · obtain ⟨q, hq⟩ := hr1.at_ hy
    exact nr hq (by decide)
  · exact Nm.rd_own (hcv1.kept hs (nr hcv1 (by decide)))
  · refine hs.block D (hop1.lt D hD) (fun e => ?_)
    cases e
    have h1 := (hop1.2 B hD).2
    rw [show w1.heap[B]? = _ from hbx1] at h1
    cases h1

/-- What such a step leaves to an iterator. -/
theorem St.leaves {w1 : World} {u v' : Value} {lo hi : Nat} {tmp : Obj} {X : Nat → Prop} (h : St W WK M B ep ls Be Bl cv Ds v us qs) (hov : Out lo hi v) (hB : B < lo) (hX : ∀ b, X b → b < lo) (hXB : ¬ X B) (hXv : ∀ b, v.ownBlock = some b → ¬ X b) (hg : (W.alloc tmp).grownBy w1 v.ownBlock) : Rf.Leaves X lo hi W (w1.setCell ⟨B, 0, none⟩ v') := by
  have hb0 : Below W.heap.size W (W.alloc tmp) := (Below.refl _ _).alloc (Nat.le_refl _) _
  refine ((Rf.Leaves.alloc X lo hi W tmp).trans (Rf.Leaves.grown hg fun r e => ?_)).trans (Rf.Leaves.grown (grownBy_setCell' w1 B v') fun r e => ?_)
  · refine ⟨hXv r e, ?_⟩
    rcases hov r e with q | q
    · exact .inl q
    · right
      rcases (own_keptB h.row hb0).2 with ⟨rfl, _⟩ | ⟨g, cap, cur, rfl, _, hgb, _⟩
      · simp [Value.ownBlock] at e
      · obtain rfl : g = r := by simpa [Value.ownBlock] using e
        exact ⟨q, _, hgb, rfl⟩
  · cases e
    exact ⟨hXB, .inl hB⟩
/-- A round of the loop over All: the payload is laid into the lists, and the count goes on. -/
theorem St.round {W0 W9 w1 : World} {u v' x17 : Value} {p : List UInt8} {lo hi b17 : Nat} {tmp : Obj} {X : Nat → Prop} (h0 : St W0 WK M B ep ls Be Bl cv Ds v us qs) (hb : Below W0.heap.size W0 W9) (hu : W9.ownsRow W0.heap.size 5 1 u p.length (p.map by1)) (hov : Out lo hi v) (hou : ∀ y ∈ us, Out lo hi y) (hlh : lo ≤ hi) (hhi : hi ≤ W0.heap.size) (hM : M ≤ WK.heap.size) (hKB : WK.heap.size ≤ B) (hBe : B ≠ Be) (hBl : B ≠ Bl) (hB : B < lo)
    (hI : Boxed W9 b17 3 x17) (k1 : WK.heap.size ≤ b17) (k2 : b17 < lo) (k3 : b17 ≠ B) (k4 : b17 ≠ Be) (k5 : b17 ≠ Bl) (hX : ∀ b, X b → b < lo) (hXB : ¬ X B) (hX17 : ¬ X b17) (hXv : ∀ b, v.ownBlock = some b → ¬ X b) (y : Value)
    (ho : w1.ownsRow WK.heap.size 23 1 v' (us.length + 1) (us ++ [u])) (hg : (W9.alloc tmp).grownBy w1 v.ownBlock) (hp : v'.ownBlock = v.ownBlock ∨ v'.ownBlock = some (W9.alloc tmp).heap.size) :
    Boxed w1 B 50 v ∧ Boxed (w1.setCell ⟨B, 0, none⟩ v') b17 3 x17 ∧ St ((w1.setCell ⟨B, 0, none⟩ v').setCell ⟨b17, 0, none⟩ y) WK M B ep ls Be Bl cv Ds v' (us ++ [u]) (qs ++ [p]) ∧ Rf.Leaves X lo hi W9 ((w1.setCell ⟨B, 0, none⟩ v').setCell ⟨b17, 0, none⟩ y) ∧ Out lo hi v' ∧ (∀ z ∈ us ++ [u], Out lo hi z) ∧ Boxed ((w1.setCell ⟨B, 0, none⟩ v').setCell ⟨b17, 0, none⟩ y) b17 3 y := by
  have h9 := h0.below hb
  have hlt : ∀ z ∈ us, ∀ b, z.ownBlock = some b → b < W0.heap.size := fun z hz b hzb => by
    obtain ⟨q, hq⟩ := h0.pays.at_ hz
    exact (hq.lt b hzb).2
  have hs0 := h0.bel.size
  obtain ⟨hbx, hS⟩ := h9.push (tmp := tmp) hu hlt (by omega) hKB hBe hBl ho hg hp
  have hb0 : Below W9.heap.size W9 (W9.alloc tmp) := (Below.refl _ _).alloc (Nat.le_refl _) _
  have hI1 : Boxed w1 b17 3 x17 := (hI.alloc tmp).kept hg ((hI.alloc tmp).not_row (by decide) (own_keptB h9.row hb0))
  have hI2 := hI1.other (B' := B) k3 v'
  refine ⟨hbx, hI2, hS.set hI2 y k1 k3 k4 k5 (by decide) (by decide) (by decide), ?_, ?_, ?_, hI2.set y⟩
  · refine (h9.leaves (tmp := tmp) (v' := v') (u := u) hov hB hX hXB hXv hg).trans (Rf.Leaves.grown (grownBy_setCell' _ _ _) (fun r e => ?_))
    cases e
    exact ⟨hX17, .inl k2⟩
  · intro b hb'
    rcases hp with hp | hp
    · rw [hp] at hb'
      exact hov b hb'
    · rw [hp] at hb'
      right
      have e : (W9.alloc tmp).heap.size = b := by simpa using hb'
      have := hb.size
      rw [← e]
      simp
      omega
  · intro z hz
    rcases List.mem_append.1 hz with hz | hz
    · exact hou z hz
    · simp at hz
      subst hz
      intro b hzb
      have := (hu.lt b hzb).1
      right
      omega
/-- The lists' own row is none of what the iterator leans on. -/
theorem St.xv (h : St W WK M B ep ls Be Bl cv Ds v us qs) : ∀ b, v.ownBlock = some b → ¬ (b = Be ∨ b = Bl ∨ cv.ownBlock = some b) := fun b hb q => by
  rcases q with rfl | rfl | q
  · exact h.seq.e.not_row (by decide) h.row hb.symm
  · exact h.seq.l.not_row (by decide) h.row hb.symm
  · exact own_sep h.row h.cvr (by decide) b hb q
end

theorem pre_at {α : Type} {pre L : List α} {x : α} (h : pre ++ [x] <+: L) : L[pre.length]? = some x := by
  obtain ⟨r, rfl⟩ := h
  simp

/-- What was wanted, at an index. -/
theorem rdl_at {W : World} {a : Option Addr} {n cap : Nat} {L : List (List UInt8)} (h : RdL W (.slice a n cap) L) (j : Nat) (p : List UInt8) (hj : L[j]? = some p) : ∃ g o ua uc, a = some ⟨g, o, none⟩ ∧ g < W.heap.size ∧ W.cell? ⟨g, o + j, none⟩ = some (.slice ua p.length uc) ∧ RdB W (.slice ua p.length uc) p ∧ L.length = n ∧ n ≤ cap := by
  obtain ⟨a', cap', e, h1, h2, h3⟩ := h
  obtain ⟨rfl, rfl, rfl⟩ : a = a' ∧ n = L.length ∧ cap = cap' := by simpa using e
  have hlt : j < L.length := (List.getElem?_eq_some_iff.1 hj).1
  obtain ⟨g, o, rfl, hg, hy⟩ := h3 (by omega)
  obtain ⟨u, f1, f2, f3⟩ := hy j p hj
  obtain ⟨ua, uc, rfl, _⟩ := id f2
  exact ⟨g, o, ua, uc, rfl, hg, f1, f2, rfl, h1⟩

/-- The lists, handed to ApartBytes. -/
theorem St.lists {W WK : World} {M B ep : Nat} {ls : List (List UInt8)} {Be Bl : Nat} {cv : Value} {Ds : List Nat} {L n cap : Nat} {us : List Value} {qs : List (List UInt8)} (h : St W WK M B ep ls Be Bl cv Ds (.slice (some ⟨L, 0, none⟩) n cap) us qs) (hn : us.length = n) (hM : M ≤ W.heap.size) : LsR W M L us (fun l => (qs.getD l []).length) (fun l => (qs.getD l []).map by1) ∧ ApartR L us := by
  have hrow := h.row
  rw [hn] at hrow
  refine ⟨⟨fun l hl => ?_, fun l hl => ?_, ?_, hM⟩, ⟨fun l m hl hm hne => h.pays.apart l m _ _ hne (List.getElem?_eq_getElem hl) (List.getElem?_eq_getElem hm), fun l hl e => ?_⟩⟩
  · have hq : qs[l]? = some (qs[l]'(by rw [← h.pays.len]; exact hl)) := List.getElem?_eq_getElem _
    have := h.pays.own l us[l] _ (List.getElem?_eq_getElem hl) hq
    simp only [List.getD_eq_getElem?_getD, hq, Option.getD_some]
    exact this
  · have := hrow.cells (g := L) rfl l us[l] (List.getElem?_eq_getElem hl)
    rw [Addr.add_lit, Nat.zero_add] at this
    exact this
  · exact (hrow.lt L rfl).2
  · obtain ⟨p, hp⟩ := h.pays.at_ (List.getElem_mem hl)
    exact own_sep hrow hp (by decide) L rfl e
end Rc
end Go.Proofs.YtjnodkjeiogloaaDoor
/- ApartBytes of the lists that RecordScans has gathered, and what it leaves. -/
namespace Go.Proofs.YtjnodkjeiogloaaDoor
set_option linter.ambiguousOpen false
open Go.RowKit
namespace Rc
open Sm Pk Ft
set_option linter.unusedSimpArgs false
set_option linter.unusedVariables false

set_option maxRecDepth 100000 in
theorem apart_nil (W : World) : Calls Tryd.prog 54 #[.slice none 0 0] W fun e w' => e = .returned (.bool true) ∧ w' = W := by
  go_enter Tryd.func54, Tryd.ntmps54
  go_wp2
  go_loopw [3] (fun kv wr => kv = .int .i64 0 ∧ wr = W) (fun _ _ => 0)
  case atStart => exact ⟨rfl, rfl⟩
  case round =>
  obtain ⟨rfl, rfl⟩ := hrel
  go_wp2
  rename World => w2
  go_loopw [5, 6] (fun gv kv wr => gv = .slice none 0 0 ∧ kv = .int .i64 0 ∧ wr = w2) (fun _ _ _ => 0)
  case atStart => exact ⟨rfl, rfl, rfl⟩
  case round =>
  obtain ⟨rfl, rfl, rfl⟩ := hrel
  go_wp2
  rename World => w3
  go_loopw [9] (fun kv wr => kv = .int .i64 0 ∧ wr = w3) (fun _ _ => 0)
  case atStart => exact ⟨rfl, rfl⟩
  case round =>
  obtain ⟨rfl, rfl⟩ := hrel
  go_wp2
  go_ret
  exact ⟨rfl, rfl⟩

section
variable {W WK w' : World} {M B ep : Nat} {ls : List (List UInt8)} {Be Bl : Nat} {cv : Value} {Ds : List Nat} {v : Value} {us : List Value} {qs : List (List UInt8)}

theorem St.apart (h : St W WK M B ep ls Be Bl cv Ds v us qs) (hM : M ≤ WK.heap.size) (hn : us.length < 4000000) (hq : ∀ q ∈ qs, q.length ≤ 512) : Calls Tryd.prog 54 #[v] W fun e w' => e = .returned (.bool true) ∧ Keep (Wb us) W w' := by
  rcases h.row.2 with ⟨hv, h0⟩ | ⟨L, cap, cur, hv, hb, hL, hc1, hc2, _⟩
  · subst hv
    refine (apart_nil W).mono ?_
    rintro e w' ⟨rfl, rfl⟩
    exact ⟨rfl, Keep.refl _ _⟩
  · subst hv
    obtain ⟨hLs, hAp⟩ := h.lists rfl (Nat.le_trans hM h.bel.size)
    refine (apartY_l us _ M L cap _ W hLs hAp hn (fun l => ?_) hc1 hc2).mono ?_
    · show (qs.getD l []).length < 1000000000
      rw [List.getD_eq_getElem?_getD]
      cases hl : qs[l]? with
      | none => simp
      | some q =>
        have := hq q (List.mem_of_getElem? hl)
        simp only [Option.getD_some]
        omega
    · rintro e w' ⟨rfl, hk, _⟩
      exact ⟨rfl, hk⟩

theorem St.wb (h : St W WK M B ep ls Be Bl cv Ds v us qs) {b : Nat} (hb : Wb us b) : M ≤ b ∧ ∃ cur, W.heap[b]? = some (.cells cur 5 (0, 0)) := by
  obtain ⟨l, hl, hbl⟩ := hb
  obtain ⟨p, hp⟩ := h.pays.at_ (List.getElem_mem hl)
  refine ⟨(hp.lt b hbl).1, ?_⟩
  rcases hp.2 with ⟨e, _⟩ | ⟨g, cap, cur, e, _, hg, _⟩
  · rw [e] at hbl
    simp [Value.ownBlock] at hbl
  · rw [e] at hbl
    obtain rfl : g = b := by simpa [Value.ownBlock] using hbl
    exact ⟨cur, hg⟩

theorem St.kbox (h : St W WK M B ep ls Be Bl cv Ds v us qs) (hk : Keep (Wb us) W w') {b : Nat} {t : TypeId} {x : Value} (hb : Boxed W b t x) (ht : t ≠ 5) : Boxed w' b t x := by
  refine hk.at hb (fun q => ?_)
  obtain ⟨_, cur, hc⟩ := h.wb q
  rw [show W.heap[b]? = _ from hb] at hc
  simp at hc
  exact ht hc.2

theorem St.kown (h : St W WK M B ep ls Be Bl cv Ds v us qs) (hk : Keep (Wb us) W w') {base : Nat} {e : TypeId} {s n : Nat} {x : Value} {xs : List Value} (hx : W.ownsRow base e s x n xs) (ht : e ≠ 5) : w'.ownsRow base e s x n xs := by
  refine hk.own hx (fun g hg q => ?_)
  obtain ⟨l, hl, hbl⟩ := q
  obtain ⟨p, hp⟩ := h.pays.at_ (List.getElem_mem hl)
  exact own_sep hx hp ht g hg hbl

theorem St.kbel (h : St W WK M B ep ls Be Bl cv Ds v us qs) (hk : Keep (Wb us) W w') (hM : M ≤ WK.heap.size) : Below M W w' :=
  hk.below (fun k hk' q => by have := (h.wb q).1; omega) (Nat.le_trans hM h.bel.size)

theorem St.kopen (h : St W WK M B ep ls Be Bl cv Ds v us qs) (hk : Keep (Wb us) W w') : Rf.Open WK.heap.size Ds w' :=
  h.op.kept (fun D hD => hk.block D (h.op.lt D hD) (fun q => by
    obtain ⟨_, cur, hc⟩ := h.wb q
    rw [(h.op.2 D hD).2] at hc
    cases hc))
end

theorem rd_belowM {W w' : World} {M : Nat} {v : Value} {ls : List (List UInt8)} {w : World} (h : Nm.Rd w v ls) (hb : Below w.heap.size w w') : Nm.Rd w' v ls := h.below hb
end Rc
end Go.Proofs.YtjnodkjeiogloaaDoor
/- What blocks begin with: the document's Scan. -/
namespace Go.Proofs.YtjnodkjeiogloaaDoor
set_option linter.ambiguousOpen false
open Go.RowKit
namespace Rc
open Sm Pk
set_option linter.unusedSimpArgs false
set_option linter.unusedVariables false

theorem OwnC.kept {w w' : World} {base : Nat} {v : Value} {l : List UInt8} {row : Option Nat} (h : OwnC w base v l) (hg : w.grownBy w' row) (hne : ∀ b, v.ownBlock = some b → row ≠ some b) : OwnC w' base v l := by
  rcases h with ⟨rfl, rfl⟩ | ⟨g, cap, h⟩
  · exact .inl ⟨rfl, rfl⟩
  · have hgb : v.ownBlock = some g := by rw [h.v]; rfl
    have hbk := hg.block g h.lt (fun e => hne g hgb e.symm)
    have hc : ∀ j, w'.cell? ⟨g, j, none⟩ = w.cell? ⟨g, j, none⟩ := fun j => World.cell?_of_block (w := w) hbk
    refine .inr ⟨g, cap, h.v, h.b, Nat.lt_of_lt_of_le h.lt hg.size, h.le, h.max, fun j hj => (hc j).trans (h.at_ j hj), fun j hj => by rw [hc j]; exact h.there j hj, fun j => ?_⟩
    rcases h.free j with hf | hf
    · left
      rw [← hf]
      unfold World.frozen?
      simp only [hbk]
    · exact .inr hf

theorem OwnC.mono {w : World} {b c : Nat} {v : Value} {l : List UInt8} (h : OwnC w b v l) (hc : c ≤ b) : OwnC w c v l := by
  rcases h with h | ⟨g, cap, h⟩
  · exact .inl h
  · exact .inr ⟨g, cap, h.v, Nat.le_trans hc h.b, h.lt, h.le, h.max, h.at_, h.there, h.free⟩

/-- Under way: the payloads' list, the places, the payloads. -/
structure Sc (w0 w : World) (ps : List (List UInt8)) (pls : List Nat) (ov pv : Value) (vs : List Value) : Prop where
  out : w.ownsRow w0.heap.size 23 1 ov vs.length vs
  pl : w.ownsRow w0.heap.size 3 1 pv pls.length (pls.map fun n : Nat => nu (n : Int))
  len : vs.length = ps.length
  row : ∀ (j : Nat) (v : Value) (p : List UInt8), vs[j]? = some v → ps[j]? = some p → OwnC w w0.heap.size v p
  sop : Nm.Sep ov pv
  sor : ∀ v ∈ vs, Nm.Sep ov v
  spr : ∀ v ∈ vs, Nm.Sep pv v
  bel : Below w0.heap.size w0 w

theorem Sc.below {w0 w w' : World} {ps : List (List UInt8)} {pls : List Nat} {ov pv : Value} {vs : List Value} (h : Sc w0 w ps pls ov pv vs) (hb : Below w.heap.size w w') : Sc w0 w' ps pls ov pv vs :=
  ⟨own_keptB h.out hb, own_keptB h.pl hb, h.len, fun j v p hj hp => (h.row j v p hj hp).below hb, h.sop, h.sor, h.spr, h.bel.trans (hb.mono h.bel.size)⟩

theorem Sc.lt {w0 w : World} {ps : List (List UInt8)} {pls : List Nat} {ov pv : Value} {vs : List Value} (h : Sc w0 w ps pls ov pv vs) : ∀ v ∈ vs, ∀ b, v.ownBlock = some b → b < w.heap.size := fun v hv b hb => by
  obtain ⟨j, hj, rfl⟩ := List.getElem_of_mem hv
  have hp : ps[j]? = some (ps[j]'(by rw [← h.len]; exact hj)) := List.getElem?_eq_getElem _
  exact ((h.row j vs[j] _ (List.getElem?_eq_getElem hj) hp).lt b hb).2

theorem sep_lies {u v : Value} {g n cap H : Nat} (hl : u.ownBlock = some g ∨ g = H) (hs : Nm.Sep u v) (hv : ∀ b, v.ownBlock = some b → b < H) : Nm.Sep (.slice (some ⟨g, 0, none⟩) n cap) v := fun b hb1 hb2 => by
  have e : g = b := by simpa [Value.ownBlock] using hb1
  subst e
  rcases hl with hl | hl
  · exact hs g hl hb2
  · have := hv g hb2
    omega

/-- A payload more; its place is told next. -/
structure Sd (w0 w : World) (ps : List (List UInt8)) (p : List UInt8) (pls : List Nat) (ov pv u : Value) (vs : List Value) : Prop where
  out : w.ownsRow w0.heap.size 23 1 ov (vs.length + 1) (vs ++ [u])
  pl : w.ownsRow w0.heap.size 3 1 pv pls.length (pls.map fun n : Nat => nu (n : Int))
  len : vs.length = ps.length
  row : ∀ (j : Nat) (v : Value) (q : List UInt8), (vs ++ [u])[j]? = some v → (ps ++ [p])[j]? = some q → OwnC w w0.heap.size v q
  sop : Nm.Sep ov pv
  sor : ∀ v ∈ vs ++ [u], Nm.Sep ov v
  spr : ∀ v ∈ vs ++ [u], Nm.Sep pv v
  bel : Below w0.heap.size w0 w

theorem Sc.more {w0 w w' : World} {ps : List (List UInt8)} {p : List UInt8} {pls : List Nat} {ov pv u : Value} {vs : List Value} {g cap : Nat} (h : Sc w0 w ps pls ov pv vs) (hu : OwnC w w0.heap.size u p) (hou : Nm.Sep ov u) (hpu : Nm.Sep pv u) (ho : w'.ownsRow w0.heap.size 23 1 (.slice (some ⟨g, 0, none⟩) (vs.length + 1) cap) (vs.length + 1) (vs ++ [u])) (hg : w.grownBy w' ov.ownBlock) (hl : ov.ownBlock = some g ∨ g = w.heap.size) : Sd w0 w' ps p pls (.slice (some ⟨g, 0, none⟩) (vs.length + 1) cap) pv u vs := by
  have hall : ∀ v ∈ vs ++ [u], Nm.Sep ov v := fun v hv => by
    rcases List.mem_append.1 hv with hv | hv
    · exact h.sor v hv
    · simp at hv; subst hv; exact hou
  have hlt : ∀ v ∈ vs ++ [u], ∀ b, v.ownBlock = some b → b < w.heap.size := fun v hv b hb => by
    rcases List.mem_append.1 hv with hv | hv
    · exact h.lt v hv b hb
    · simp at hv; subst hv; exact (hu.lt b hb).2
  refine ⟨ho, h.pl.kept hg (by cases hv : pv.ownBlock with | none => exact .inl rfl | some b => exact .inr (fun e => h.sop b e.symm hv)), h.len, fun j v q hj hq => ?_, sep_lies hl h.sop (fun b hb => (h.pl.lt b hb).2), fun v hv => sep_lies hl (hall v hv) (hlt v hv), fun v hv => ?_, Below.grown h.bel hg h.bel.size (fun j hj => (h.out.lt j hj).1)⟩
  · have hO : OwnC w w0.heap.size v q := by
      rcases Nat.lt_or_ge j vs.length with hjl | hjl
      · rw [List.getElem?_append_left hjl] at hj
        rw [List.getElem?_append_left (by rw [← h.len]; exact hjl)] at hq
        exact h.row j v q hj hq
      · rw [List.getElem?_append_right hjl] at hj
        rw [List.getElem?_append_right (by rw [← h.len]; exact hjl), ← h.len] at hq
        obtain ⟨k, hk⟩ : ∃ k, j - vs.length = k := ⟨_, rfl⟩
        rw [hk] at hj hq
        cases k with
        | zero =>
          simp at hj hq
          subst hj hq
          exact hu
        | succ k => simp at hj
    exact hO.kept hg (fun b hb e => hall v (List.mem_of_getElem? hj) b e hb)
  · rcases List.mem_append.1 hv with hv | hv
    · exact h.spr v hv
    · simp at hv; subst hv; exact hpu

theorem Sd.alloc {w0 w : World} {ps : List (List UInt8)} {p : List UInt8} {pls : List Nat} {ov pv u : Value} {vs : List Value} (h : Sd w0 w ps p pls ov pv u vs) (o : Obj) : Sd w0 (w.alloc o) ps p pls ov pv u vs := by
  have hb : Below w.heap.size w (w.alloc o) := (Below.refl _ _).alloc (Nat.le_refl _) _
  exact ⟨h.out.alloc o, h.pl.alloc o, h.len, fun j v q hj hq => (h.row j v q hj hq).below hb, h.sop, h.sor, h.spr, h.bel.alloc h.bel.size o⟩

theorem Sd.more {w0 w w' : World} {ps : List (List UInt8)} {p : List UInt8} {pls : List Nat} {n : Nat} {ov pv u : Value} {vs : List Value} {g cap : Nat} (h : Sd w0 w ps p pls ov pv u vs) (ho : w'.ownsRow w0.heap.size 3 1 (.slice (some ⟨g, 0, none⟩) (pls.length + 1) cap) (pls.length + 1) ((pls.map fun n : Nat => nu (n : Int)) ++ [nu (n : Int)])) (hg : w.grownBy w' pv.ownBlock) (hl : pv.ownBlock = some g ∨ g = w.heap.size) : Sc w0 w' (ps ++ [p]) (pls ++ [n]) ov (.slice (some ⟨g, 0, none⟩) (pls.length + 1) cap) (vs ++ [u]) := by
  have hlt : ∀ v ∈ vs ++ [u], ∀ b, v.ownBlock = some b → b < w.heap.size := fun v hv b hb => by
    obtain ⟨j, hj, rfl⟩ := List.getElem_of_mem hv
    have hp : (ps ++ [p])[j]? = some ((ps ++ [p])[j]'(by rw [List.length_append] at hj ⊢; rw [← h.len]; exact hj)) := List.getElem?_eq_getElem _
    exact ((h.row j _ _ (List.getElem?_eq_getElem hj) hp).lt b hb).2
  have hs2 : Nm.Sep (.slice (some ⟨g, 0, none⟩) (pls.length + 1) cap) ov := sep_lies hl h.sop.symm (fun b hb => (h.out.lt b hb).2)
  refine ⟨?_, by rw [List.length_append, List.map_append]; exact ho, by rw [List.length_append, List.length_append, h.len]; rfl, fun j v q hj hq => (h.row j v q hj hq).kept hg (fun b hb e => h.spr v (List.mem_of_getElem? hj) b e hb), hs2.symm, h.sor, fun v hv => sep_lies hl (h.spr v hv) (hlt v hv), Below.grown h.bel hg h.bel.size (fun j hj => (h.pl.lt j hj).1)⟩
  rw [List.length_append]
  exact h.out.kept hg (by cases hv : ov.ownBlock with | none => exact .inl rfl | some b => exact .inr (fun e => h.sop b hv e.symm))

theorem scanG_step (ep f at_ : Nat) (l : List (List UInt8)) (p : List UInt8) (k : Nat) (h : one ep l = some (p, k)) : scanG ep (f + 1) at_ l = (p :: (scanG ep f (at_ + k) (l.drop k)).1, at_ :: (scanG ep f (at_ + k) (l.drop k)).2.1, (scanG ep f (at_ + k) (l.drop k)).2.2) := by
  rw [scanG, h]

theorem scanG_none (ep f at_ : Nat) (l : List (List UInt8)) (h : one ep l = none) : scanG ep (f + 1) at_ l = ([], [], at_) := by
  rw [scanG, h]

/-- What is told: what was told, and what is left. -/
def told (a : List (List UInt8) × List Nat × Nat) (ps : List (List UInt8)) (pls : List Nat) : List (List UInt8) × List Nat × Nat := (ps ++ a.1, pls ++ a.2.1, a.2.2)

set_option maxRecDepth 100000 in
set_option maxHeartbeats 8000000 in
theorem refscan (ep : Nat) (lv : Value) (ls : List (List UInt8)) (w : World) (hep : ep < 4294967296) (hR : Nm.Rd w lv ls) (hN : ls.length ≤ 1000000000000) (hT : ∀ t ∈ ls, t.length ≤ 140737488350000) :
    Calls Tryd.prog 51 #[.int .u32 (ep : Int), lv] w fun e w' => ∃ ov pv vs, e = .returned (.tuple #[ov, pv, nu ((scan ep ls).2.2 : Int)]) ∧ Sc w w' (scan ep ls).1 (scan ep ls).2.1 ov pv vs := by
  obtain ⟨i1, ji1, kz0, kz1, kz2⟩ := info_parts (show (Tryd.prog.info? 23).map (fun i => (i.zero, i.size, i.bytes)) = some (some (.slice none 0 0), 1, 24) by kernel_rfl)
  obtain ⟨i2, ji2, lz0, lz1, lz2⟩ := info_parts (show (Tryd.prog.info? 3).map (fun i => (i.zero, i.size, i.bytes)) = some (some (.int .i64 0), 1, 8) by kernel_rfl)
  have HR := Hid.mk' hR
  have HT := Hid.mk' hT
  obtain ⟨n, hn⟩ : ∃ n, ls.length = n := ⟨_, rfl⟩
  have HN := Hid.mk' hn
  obtain ⟨al, cl, rfl, hc1, hc2, _⟩ := hR
  obtain ⟨A, hA⟩ : ∃ x, scan ep ls = x := ⟨_, rfl⟩
  have HA : Hid (scanG ep n 0 ls = A) := by
    show _ = _
    rw [← hA, scan, hn]
  rw [hA]
  rw [hn] at HR hc1 hN ⊢
  have cO : Hid (∀ wx at_, at_ ≤ n → Below w.heap.size w wx → Calls Tryd.prog 64 #[.int .u32 (ep : Int), .slice al n cl, nu (at_ : Int)] wx (AnsO (one ep (ls.drop at_)) wx)) := fun wx at_ ha hb => refone ep _ ls at_ wx hep (HR.out.below hb) (by have := HN.out; omega) (by have := HN.out; omega) HT.out
  clear hT hn hA hc2
  go_enter Tryd.func51, Tryd.ntmps51
  go_wp2
  go_loopw [7, 8, 9, 10, 11, 12, 13] (fun ov pv av iv _ _ _ wr => ∃ (i at_ : Nat) (ps : List (List UInt8)) (pls : List Nat) (vs : List Value), i ≤ n ∧ at_ ≤ n ∧ ps.length = i ∧ pls.length = i ∧ iv = nu (i : Int) ∧ av = nu (at_ : Int) ∧ Hid (told (scanG ep (n - i) at_ (ls.drop at_)) ps pls = A) ∧ Hid (Sc w wr ps pls ov pv vs)) (fun _ _ _ iv _ _ _ _ => n - (intOf iv).toNat)
  case atStart => exact ⟨0, 0, [], [], [], Nat.zero_le _, Nat.zero_le _, rfl, rfl, rfl, rfl, by show told _ _ _ = _; rw [Nat.sub_zero, List.drop_zero, told, HA.out]; rfl, ⟨World.ownsRow_nil _ _ _ _, World.ownsRow_nil _ _ _ _, rfl, fun j v p hj => by simp at hj, Nm.Sep.nil _, fun v hv => by simp at hv, fun v hv => by simp at hv, Below.refl _ _⟩⟩
  case round =>
  obtain ⟨i, at_, ps, pls, vs, hi, hat, hpl, hql, rfl, rfl, hS, hC⟩ := hrel
  by_cases hin : i < n
  · have hiI : (i : Int) < (n : Int) := by omega
    have C := Hid.mk' (cO.out wr at_ hat hC.out.bel)
    cases ho : one ep (ls.drop at_) with
    | none =>
      rw [ho] at C
      have hfin : Hid (A = (ps, pls, at_)) := by
        show _ = _
        rw [← hS.out, show n - i = (n - i - 1) + 1 by omega, scanG_none ep _ _ _ ho, told]
        simp
      clear ho hpl hql
      go_wp2_with fail
      refine C.out.mono ?_
      rintro e x1 hx
      have hx' : ∃ v k, e = .returned (.tuple #[v, k, .bool false]) ∧ Below wr.heap.size wr x1 := by
        obtain ⟨a, c, k, h | h⟩ := hx
        · exact ⟨_, _, h.1, h.2⟩
        · exact h
      obtain ⟨v, k, rfl, hb⟩ := hx'
      have HC1 := Hid.mk' (hC.out.below hb)
      clear hx hb C
      go_wp2
      go_ret3
      rw [hfin.out]
      exact ⟨_, _, vs, rfl, HC1.out⟩
    | some x =>
      obtain ⟨p, k⟩ := x
      obtain ⟨o1, o2, o3, o4⟩ := one_some ep (ls.drop at_) p k ho
      rw [ho] at C
      have hak : at_ + k ≤ n := by
        rw [List.length_drop, HN.out] at o3
        omega
      have hnx : Hid (told (scanG ep (n - (i + 1)) (at_ + k) (ls.drop (at_ + k))) (ps ++ [p]) (pls ++ [at_]) = A) := by
        show _ = _
        rw [← hS.out, show n - i = (n - (i + 1)) + 1 by omega, scanG_step ep _ _ _ p k ho, told, told, List.drop_drop]
        simp
      have hmx : Hid (vs.length + 1 ≤ maxLen) := by show _ ≤ _; have := hC.out.len; unfold maxLen; omega
      have hby : Hid ((vs.length + 1) * 24 ≤ 140737488355328) := by show _ ≤ _; have := hC.out.len; omega
      have hmx2 : Hid (pls.length + 1 ≤ maxLen) := by show _ ≤ _; unfold maxLen; omega
      have hby2 : Hid ((pls.length + 1) * 8 ≤ 140737488355328) := by show _ ≤ _; omega
      have HPL := Hid.mk' hpl
      have HQL := Hid.mk' hql
      have hakI : (at_ : Int) + (k : Int) ≤ 1000000000000 := by omega
      clear ho o1 o2 o3 o4 hpl hql
      go_wp2_with fail
      refine C.out.mono ?_
      rintro e x1 ⟨v, rfl, hov, hb⟩
      have HC1 := Hid.mk' (hC.out.below hb)
      have HV1 := Hid.mk' (hov.mono hC.out.bel.size)
      have hout : Hid (Nm.Sep u7 v) := fun b h1 h2 => by
        have e1 := (hC.out.out.lt b h1).2
        have e2 := (hov.lt b h2).1
        omega
      have hplc : Hid (Nm.Sep u8 v) := fun b h1 h2 => by
        have e1 := (hC.out.pl.lt b h1).2
        have e2 := (hov.lt b h2).1
        omega
      obtain ⟨av, cv, rfl⟩ := hov.shape
      have ba : Below x1.heap.size x1 (x1.alloc (.cells #[.slice av p.length cv] 23)) := (Below.refl _ _).alloc (Nat.le_refl _) _
      have HC2 := Hid.mk' (HC1.out.below ba)
      have HV2 := Hid.mk' (HV1.out.below ba)
      clear hov hb C ba
      go_wp2_with (first | (at_builtin; refine wpList_append_lies _ rfl _ _ 50 rfl w.heap.size 23 i1 (.slice none 0 0) 1 24 Tryd.underlying50 ji1 kz0 kz1 kz2 rfl (by decide) _ vs.length _ rfl HC2.out.out ⟨x1.heap.size, 0, none⟩ 1 1 [.slice av p.length cv] rfl rfl (cell_one_new _ _ _) (by intro x hx; simp at hx; subst hx; rfl) (by decide) hmx.out hby.out HC2.out.bel.size _ rfl ?_; intro g3 c3 w3 ho hg hl hlt; have HD3 := Hid.mk' ((HC2.out.more HV2.out hout.out hplc.out ho hg hl).alloc (.cells #[nu (at_ : Int)] 3)); clear ho hg hl hlt) | (at_builtin; refine wpList_append_lies _ rfl _ _ 59 rfl w.heap.size 3 i2 (.int .i64 0) 1 8 Tryd.underlying59 ji2 lz0 lz1 lz2 rfl (by decide) _ pls.length _ rfl HD3.out.pl ⟨w3.heap.size, 0, none⟩ 1 1 [nu (at_ : Int)] rfl rfl (cell_one_new _ _ _) (by intro x hx; simp at hx; subst hx; rfl) (by decide) hmx2.out hby2.out HD3.out.bel.size _ rfl ?_; intro g4 c4 w4 ho hg hl hlt; have HC4 := Hid.mk' (HD3.out.more ho hg hl); clear ho hg hl hlt) | fail)
      refine ⟨⟨i + 1, at_ + k, ps ++ [p], pls ++ [at_], vs ++ [.slice av p.length cv], by omega, hak, by rw [List.length_append, HPL.out]; rfl, by rw [List.length_append, HQL.out]; rfl, by go_num, by go_num, hnx, HC4⟩, ?_⟩
      simp [intOf]
      omega
  · obtain rfl : i = n := by omega
    have hfin : Hid (A = (ps, pls, at_)) := by
      show _ = _
      rw [← hS.out, Nat.sub_self, told, scanG]
      simp
    clear hpl hql
    go_wp2
    go_ret3
    rw [hfin.out]
    exact ⟨_, _, vs, rfl, hC.out⟩
end Rc
end Go.Proofs.YtjnodkjeiogloaaDoor
/- Lists of texts that are lent with marks behind, and looked at again. -/
namespace Go.Proofs.YtjnodkjeiogloaaDoor
set_option linter.ambiguousOpen false
open Go.RowKit Nm
namespace Lb
set_option linter.unusedSimpArgs false
set_option linter.unusedVariables false

set_option maxRecDepth 1000000 in
set_option maxHeartbeats 1000000 in
theorem marktext_some (i : Int) (h1 : -4611686018427387904 ≤ i) (h2 : i ≤ 4611686018427387904) (w : World) :
    Calls Tryd.prog 45 #[.int .i64 90, .int .i64 i] w fun e w' => (∃ s, e = .returned (.string s)) ∧ Below w.heap.size w w' := by
  have hcv := run_conv5
  go_enter Tryd.func45, Tryd.ntmps45
  go_wp2
  go_ret
  exact ⟨⟨_, rfl⟩, (Below.refl _ _).alloc (Nat.le_refl _) _⟩
theorem marktexts_some (i : Int) (h1 : -4611686018427387904 ≤ i) (h2 : i ≤ 4611686018427387904) (w : World) :
    Calls Tryd.prog 20 #[.int .i64 90, .int .i64 i] w fun e w' => (∃ s, e = .returned (.string s)) ∧ Below w.heap.size w w' := by
  have c := marktext_some i h1 h2 w
  go_enter Tryd.func20, Tryd.ntmps20
  go_wp2_with fail
  refine c.mono ?_
  rintro e w1 ⟨⟨s, rfl⟩, q1⟩
  go_wp2
  go_ret
  exact ⟨⟨_, rfl⟩, q1⟩

theorem map_snoc (l : List (List UInt8)) (k : Nat) (h : k < l.length) : (l.take (k + 1)).map txt = (l.take k).map txt ++ [txt l[k]] := by
  rw [List.take_succ_eq_append_getElem h, List.map_append]; rfl

set_option maxRecDepth 100000 in
set_option maxHeartbeats 2000000 in
theorem full_any (v : Value) (l : List (List UInt8)) (w : World) (hR : Rd w v l) (hl : l.length * 16 ≤ 140737488351232) :
    Calls Tryd.prog 63 #[v] w fun e w' => ∃ v', e = .returned v' ∧ w'.ownsRow w.heap.size 9 1 v' (l.length + 16) (l.map txt ++ marks 90 16) ∧ Below w.heap.size w w' := by
  obtain ⟨i0, hi, hz0, hz1, hz2⟩ := info_parts Tryd.info9
  obtain ⟨a, cap, rfl, hc, hm, hcell⟩ := hR
  unfold maxLen at hm
  have HC : Hid (0 < l.length → ∃ g o, a = some ⟨g, o, none⟩ ∧ g < w.heap.size ∧ ∀ j (hj : j < l.length), w.cell? ⟨g, o + j, none⟩ = some (.string (B l[j]))) := hcell
  clear hcell
  go_enter Tryd.func63, Tryd.ntmps63
  go_wp2
  go_loopw [3, 4] (fun pv iv wr => ∃ k : Nat, k ≤ l.length ∧ iv = .int .i64 k ∧ wr.ownsRow w.heap.size 9 1 pv k ((l.take k).map txt) ∧ Below w.heap.size w wr) (fun _ iv _ => l.length - (intOf iv).toNat)
  case atStart => exact ⟨0, Nat.zero_le _, rfl, World.ownsRow_nil _ _ _ _, Below.refl _ _⟩
  case round =>
    obtain ⟨k, hk, rfl, hown, hbel⟩ := hrel
    by_cases hp : k < l.length
    · obtain ⟨g, o, rfl, hgl, hcj⟩ := HC.out (Nat.lt_of_le_of_lt (Nat.zero_le _) hp)
      have hck : wr.cell? ⟨g, o + k, none⟩ = some (.string (B l[k])) := (hbel.cell (p := ⟨g, o + k, none⟩) hgl).trans (hcj k hp)
      have HS : Hid ((l.take (k + 1)).map txt = (l.take k).map txt ++ [txt l[k]]) := map_snoc l k hp
      clear hcj
      go_wp2_with (at_builtin; refine wpList_append_own _ rfl _ _ 25 rfl w.heap.size 9 i0 (.string ⟨#[]⟩) 1 16 Tryd.underlying25 hi hz0 hz1 hz2 rfl (by decide) _ _ _ rfl (hown.alloc _) ⟨wr.heap.size, 0, none⟩ 1 1 [.string (B l[k])] rfl rfl (cell_one_new _ _ _) (by simp [Value.oneCell']) (by unfold maxLen; omega) (by omega) (by have := hbel.size; simp; omega) ?_; intro v' w4 hown4 hgrow _; have hbel4 : Below w.heap.size w w4 := Below.grown (hbel.alloc (by exact hbel.size) _) hgrow (by have := hbel.size; simp; omega) (fun k hk => (hown.lt k hk).1))
      go_roundw
      case rel => exact ⟨k + 1, by omega, by go_num, by rw [HS.out]; exact hown4, hbel4⟩
      case measure => simp [intOf]; omega
    · obtain rfl : k = l.length := by omega
      rw [List.take_length] at hown
      rename World => w1
      go_wp2
      go_loopw [3, 5] (fun pv iv wr => ∃ k : Nat, k ≤ 16 ∧ iv = .int .i64 k ∧ wr.ownsRow w.heap.size 9 1 pv (l.length + k) (l.map txt ++ marks 90 k) ∧ Below w.heap.size w wr) (fun _ iv _ => 16 - (intOf iv).toNat)
      case atStart => exact ⟨0, Nat.zero_le _, rfl, by simpa [marks] using hown, hbel⟩
      case round =>
        obtain ⟨k, hk2, rfl, hown2, hbel2⟩ := hrel
        by_cases hp2 : k < 16
        · have cm := marktexts_at 90 k 90 k rfl rfl (by decide) (by omega) wr
          have HS : Hid (l.map txt ++ marks 90 (k + 1) = (l.map txt ++ marks 90 k) ++ [.string (markS 90 k)]) := by
            show _ = _
            rw [marks_succ, List.append_assoc]; rfl
          go_wp2_with fail
          refine cm.mono ?_
          rintro e w3 ⟨rfl, hb3⟩
          have hown3 := own_below hown2 hb3
          have hbel3 := hbel2.trans (hb3.mono hbel2.size)
          generalize markS 90 k = ms at *
          go_wp2_with (at_builtin; refine wpList_append_own _ rfl _ _ 25 rfl w.heap.size 9 i0 (.string ⟨#[]⟩) 1 16 Tryd.underlying25 hi hz0 hz1 hz2 rfl (by decide) _ _ _ rfl (hown3.alloc _) ⟨w3.heap.size, 0, none⟩ 1 1 [.string ms] rfl rfl (cell_one_new _ _ _) (by simp [Value.oneCell']) (by unfold maxLen; omega) (by omega) (by have := hbel3.size; simp; omega) ?_; intro v' w4 hown4 hgrow _; have hbel4 : Below w.heap.size w w4 := Below.grown (hbel3.alloc (by exact hbel3.size) _) hgrow (by have := hbel3.size; simp; omega) (fun k hk => (hown3.lt k hk).1))
          go_roundw
          case rel => exact ⟨k + 1, by omega, by go_num, by rw [HS.out]; exact hown4, hbel4⟩
          case measure => simp [intOf]; omega
        · obtain rfl : k = 16 := by omega
          go_wp2
          go_ret
          exact ⟨_, rfl, hown2, hbel2⟩
theorem own_pos {w : World} {base n : Nat} {v : Value} {e : TypeId} {xs : List Value} (h : w.ownsRow base e 1 v n xs) (hn : 0 < n) : ∃ g cap, v = .slice (some ⟨g, 0, none⟩) n cap ∧ n ≤ cap ∧ cap ≤ maxLen ∧ base ≤ g ∧ g < w.heap.size := by
  rcases h.2 with ⟨_, h0⟩ | ⟨g, cap, cur, rfl, h1, h2, h3, h4, _⟩
  · omega
  · exact ⟨g, cap, rfl, h3, h4, h1, (Array.getElem?_eq_some_iff.1 h2).1⟩

set_option maxRecDepth 100000 in
set_option maxHeartbeats 1000000 in
theorem lent_any (v : Value) (l : List (List UInt8)) (w : World) (hR : Rd w v l) (hl : l.length * 16 ≤ 140737488351232) :
    Calls Tryd.prog 50 #[v] w fun e w' => ∃ g cap, e = .returned (.slice (some ⟨g, 0, none⟩) l.length cap) ∧ l.length + 16 ≤ cap ∧ cap ≤ maxLen ∧ w'.ownsRow w.heap.size 9 1 (.slice (some ⟨g, 0, none⟩) (l.length + 16) cap) (l.length + 16) (l.map txt ++ marks 90 16) ∧ Below w.heap.size w w' := by
  have c := full_any v l w hR hl
  obtain ⟨a, cap0, rfl, hc, hm, hcell⟩ := hR
  unfold maxLen at hm
  clear hcell
  go_enter Tryd.func50, Tryd.ntmps50
  go_wp2_with fail
  refine c.mono ?_
  rintro e w1 ⟨v', rfl, hown, hb⟩
  obtain ⟨g, cap, rfl, h1, h2, h3, h4⟩ := own_pos hown (by omega)
  have h2' := h2
  unfold maxLen at h2
  have HO : Hid (w1.ownsRow w.heap.size 9 1 (.slice (some ⟨g, 0, none⟩) (l.length + 16) cap) (l.length + 16) (l.map txt ++ marks 90 16)) := hown
  clear hown
  go_wp2
  go_ret
  exact ⟨g, cap, rfl, h1, h2', HO.out, hb⟩

theorem row_at {w : World} {base g cap n : Nat} {e : TypeId} {xs : List Value} (h : w.ownsRow base e 1 (.slice (some ⟨g, 0, none⟩) n cap) n xs) (k : Nat) (hk : k < n) (hx : k < xs.length) : w.cell? ⟨g, k, none⟩ = some xs[k] := by
  obtain ⟨⟨u, h1, h2⟩, _⟩ := own_cell h k hk
  rw [List.getElem?_eq_getElem hx] at h1
  rw [h2, ← h1]

set_option maxRecDepth 100000 in
set_option maxHeartbeats 2000000 in
theorem keptFull_any (v : Value) (l : List (List UInt8)) (g cap base : Nat) (w : World) (hR : Rd w v l) (hl : l.length * 16 ≤ 140737488351232) (hcap : l.length + 16 ≤ cap) (hcm : cap ≤ maxLen)
    (hown : w.ownsRow base 9 1 (.slice (some ⟨g, 0, none⟩) (l.length + 16) cap) (l.length + 16) (l.map txt ++ marks 90 16)) (hgl : g < w.heap.size) :
    Calls Tryd.prog 69 #[.slice (some ⟨g, 0, none⟩) (l.length + 16) cap, v] w fun e w' => e = .returned (.bool true) ∧ Below w.heap.size w w' := by
  have HX : Hid (∀ j (hj : j < l.length), w.cell? ⟨g, j, none⟩ = some (.string (B l[j]))) := fun j hj => by
    have := row_at hown j (by omega) (by simp [marks_len]; omega)
    rw [this, List.getElem_append_left (by simpa using hj)]
    simp [txt]
  have HY : Hid (∀ j, j < 16 → w.cell? ⟨g, l.length + j, none⟩ = some (.string (markS 90 j))) := fun j hj => by
    have := row_at hown (l.length + j) (by omega) (by simp [marks_len]; omega)
    rw [this, List.getElem_append_right (by simp)]
    simp [marks, markT]
  obtain ⟨a, cap0, rfl, hc, hm, hcell⟩ := hR
  unfold maxLen at hm hcm
  have HC : Hid (0 < l.length → ∃ g o, a = some ⟨g, o, none⟩ ∧ g < w.heap.size ∧ ∀ j (hj : j < l.length), w.cell? ⟨g, o + j, none⟩ = some (.string (B l[j]))) := hcell
  clear hcell hown
  have hlen : (((l.length + 16 : Nat) : Int) != (l.length : Int) + 16) = false := by rw [bne_eq_false_iff_eq]; omega
  go_enter Tryd.func69, Tryd.ntmps69
  go_wp2
  go_loopw [5] (fun iv wr => ∃ k : Nat, k ≤ l.length + 16 ∧ iv = .int .i64 k ∧ Below w.heap.size w wr) (fun iv _ => l.length + 16 - (intOf iv).toNat)
  case atStart => exact ⟨0, Nat.zero_le _, rfl, Below.refl _ _⟩
  case round =>
    obtain ⟨k, hk, rfl, hbel⟩ := hrel
    by_cases hp : k < l.length + 16
    · by_cases hq : k < l.length
      · obtain ⟨g2, o2, rfl, hgl2, hcj⟩ := HC.out (Nat.lt_of_le_of_lt (Nat.zero_le _) hq)
        have cm := marktexts_some ((k : Int) - (l.length : Int)) (by omega) (by omega) wr
        have hcj2 := hcj k hq
        have hcx2 := HX.out k hq
        generalize B l[k] = x at *
        clear hcj
        go_wp2_with fail
        refine cm.mono ?_
        rintro e w3 ⟨⟨ms, rfl⟩, hb3⟩
        have hbel3 := hbel.trans (hb3.mono hbel.size)
        have hc1 : w3.cell? ⟨g2, o2 + k, none⟩ = some (.string x) := (hbel3.cell (p := ⟨g2, o2 + k, none⟩) hgl2).trans hcj2
        have hc2 : w3.cell? ⟨g, k, none⟩ = some (.string x) := (hbel3.cell (p := ⟨g, k, none⟩) hgl).trans hcx2
        go_wp2
        go_roundw
        case rel => exact ⟨k + 1, by omega, by go_num, hbel3⟩
        case measure => simp [intOf]; omega
      · obtain ⟨j, rfl⟩ : ∃ j, k = l.length + j := ⟨k - l.length, by omega⟩
        have cm := marktexts_at 90 (((l.length + j : Nat) : Int) - (l.length : Int)) 90 j rfl (by omega) (by decide) (by omega) wr
        have hcy := HY.out j (by omega)
        generalize markS 90 j = ms at *
        go_wp2_with fail
        refine cm.mono ?_
        rintro e w3 ⟨rfl, hb3⟩
        have hbel3 := hbel.trans (hb3.mono hbel.size)
        have hc2 : w3.cell? ⟨g, l.length + j, none⟩ = some (.string ms) := (hbel3.cell (p := ⟨g, l.length + j, none⟩) hgl).trans hcy
        go_wp2
        go_roundw
        case rel => exact ⟨l.length + j + 1, by omega, by go_num, hbel3⟩
        case measure => simp [intOf]; omega
    · obtain rfl : k = l.length + 16 := by omega
      go_wp2
      go_ret
      exact ⟨rfl, hbel⟩

set_option maxRecDepth 100000 in
set_option maxHeartbeats 1000000 in
theorem kept_any (v : Value) (l : List (List UInt8)) (g cap base : Nat) (w : World) (hR : Rd w v l) (hl : l.length * 16 ≤ 140737488351232) (hcap : l.length + 16 ≤ cap) (hcm : cap ≤ maxLen)
    (hown : w.ownsRow base 9 1 (.slice (some ⟨g, 0, none⟩) (l.length + 16) cap) (l.length + 16) (l.map txt ++ marks 90 16)) (hgl : g < w.heap.size) :
    Calls Tryd.prog 55 #[.slice (some ⟨g, 0, none⟩) l.length cap, v] w fun e w' => e = .returned (.bool true) ∧ Below w.heap.size w w' := by
  have c := keptFull_any v l g cap base w hR hl hcap hcm hown hgl
  obtain ⟨a, cap0, rfl, hc, hm, hcell⟩ := hR
  unfold maxLen at hm hcm
  clear hcell hown
  have hn : ((l.length : Int) + 16).toNat = l.length + 16 := by omega
  go_enter Tryd.func55, Tryd.ntmps55
  go_wp2_with (first | (simp only [hn]) | fail)
  refine c.mono ?_
  rintro e w1 ⟨rfl, hb⟩
  go_wp2
  go_ret
  exact ⟨rfl, hb⟩
end Lb
end Go.Proofs.YtjnodkjeiogloaaDoor
/- RecordAgain. -/
namespace Go.Proofs.YtjnodkjeiogloaaDoor
set_option linter.ambiguousOpen false
open Go.RowKit
namespace Rc
open Sm Pk
set_option linter.unusedSimpArgs false
set_option linter.unusedVariables false

theorem slice_toT (a : Option Addr) (len cap k : Nat) (h : k ≤ cap) (w : World) : (Instr.slice 25 (.slice a len cap) none (some (.int .i64 (k : Int))) none).run Tryd.prog w = .ok (.slice a k cap) w := by
  have hu := Tryd.underlying25
  have h1 : (0 : Int) ≤ (k : Int) ∧ (k : Int) ≤ (cap : Int) := by omega
  cases a with
  | none =>
    simp [Instr.slice, Instr.sliceBounds, Instr.sliceBound, asIntOf, run_underlying hu]
    intro hlt
    omega
  | some ad =>
    simp [Instr.slice, Instr.sliceBounds, Instr.sliceBound, asIntOf, run_underlying hu, Addr.add]
    intro hlt
    omega

theorem rd_takeT {w : World} {a : Option Addr} {ls : List (List UInt8)} {cap n : Nat} (hn : ls.length = n) (h : Nm.Rd w (.slice a n cap) ls) (k : Nat) (hk : k ≤ n) : Nm.Rd w (.slice a k cap) (ls.take k) := by
  subst hn
  obtain ⟨a', cap', e, h1, h2, h3⟩ := h
  cases e
  have hl : (ls.take k).length = k := by rw [List.length_take]; omega
  refine ⟨a, cap, by rw [hl], by omega, h2, fun h0 => ?_⟩
  rw [hl] at h0
  obtain ⟨g, o, rfl, e2, e3⟩ := h3 (by omega)
  refine ⟨g, o, rfl, e2, fun j hj => ?_⟩
  rw [hl] at hj
  rw [e3 j (by omega), List.getElem_take]

set_option maxRecDepth 100000 in
set_option maxHeartbeats 8000000 in
theorem again_yes (SF : FrameC) (SS : ScanC) (ep : Nat) (lv : Value) (ls : List (List UInt8)) (w : World) (hep : ep < 4294967296) (hR : Nm.Rd w lv ls) (hN : ls.length ≤ 1000000000000) (hT : ∀ t ∈ ls, t.length ≤ 140737488350000) :
    Calls Tryd.prog 28 #[.int .u32 (ep : Int), lv] w fun e w' => e = .returned (.bool true) ∧ Below w.heap.size w w' := by
  obtain ⟨i0, ji, hz0, hz1, hz2⟩ := info_parts (show (Tryd.prog.info? 9).map (fun i => (i.zero, i.size, i.bytes)) = some (some (.string ⟨#[]⟩), 1, 16) by kernel_rfl)
  have c1 := Hid.mk' (SS w ep lv ls hep hR (by omega) hT)
  have cW := Hid.mk' (fun wx => works_yes SF SS wx)
  obtain ⟨s1, s2, s3, s4⟩ := scan_again ep ls
  obtain ⟨PS, hPS⟩ : ∃ x, (scan ep ls).1 = x := ⟨_, rfl⟩
  obtain ⟨k, hk⟩ : ∃ x, (scan ep ls).2.2 = x := ⟨_, rfl⟩
  rw [hPS, hk] at c1 s2
  rw [hPS] at s3
  rw [hk] at s1
  have hPN : PS.length ≤ 1000000000000 := by
    have := flat_len ep PS
    rw [s2, List.length_take] at this
    omega
  have HR := Hid.mk' hR
  have HS2 := Hid.mk' s2
  have HS3 := Hid.mk' s3
  obtain ⟨n, hn⟩ : ∃ x, ls.length = x := ⟨_, rfl⟩
  have HNL := Hid.mk' hn
  obtain ⟨al, cl, rfl, hc1, hc2, _⟩ := hR
  rw [hn] at HR hc1 s1 c1 hN ⊢
  have hsl := fun wx => slice_toT al n cl k (by omega) wx
  have HRT : Hid (∀ wx, Below w.heap.size w wx → Nm.Rd wx (.slice al k cl) (flat ep PS)) := fun wx hx => by
    rw [HS2.out]
    exact rd_takeT HNL.out (HR.out.below hx) k s1
  have hkI : ¬ (k : Int) < 0 := by omega
  have hkJ : ¬ (n : Int) < (k : Int) := by omega
  have hkB : decide ((k : Int) < 0) = false := decide_eq_false hkI
  have hkC : decide ((n : Int) < (k : Int)) = false := decide_eq_false hkJ
  have hkE : ¬ n < k := by omega
  have hkD : decide (n < k) = false := decide_eq_false hkE
  clear s2 s3 s4 hPS hk hn hT
  go_enter Tryd.func28, Tryd.ntmps28
  go_wp2_with fail
  refine c1.out.mono ?_
  rintro e x1 ⟨r, vs, rfl, ho, hr, _, hb⟩
  have HG1 := Hid.mk' (rows_rdl ho hr)
  have hvl := hr.len
  obtain ⟨a1, k1, rfl, _⟩ := Nm.own_shape ho
  obtain ⟨N, hNN⟩ : ∃ x, PS.length = x := ⟨_, rfl⟩
  rw [hvl, hNN] at HG1 ⊢
  rw [hNN] at hPN
  have HNN := Hid.mk' hNN
  have HB1 := Hid.mk' hb
  clear ho hr hb hvl hNN c1
  go_wp2_with fail
  refine (cW.out _).mono ?_
  rintro e x2 ⟨rfl, hb⟩
  have HG2 := Hid.mk' (HG1.out.below hb)
  have HB2 := Hid.mk' (HB1.out.trans (hb.mono HB1.out.size))
  clear hb HG1 HB1 cW
  go_wp2
  go_loopw [7, 8, 9, 10, 11, 12] (fun bv iv _ _ _ _ wr => ∃ (i m : Nat), i ≤ N ∧ m ≤ 3 * i ∧ iv = nu (i : Int) ∧ Hid (wr.ownsRow x2.heap.size 9 1 bv m ((flat ep (PS.take i)).map Nm.txt)) ∧ Hid ((flat ep (PS.take i)).length = m) ∧ Hid (Below x2.heap.size x2 wr)) (fun _ iv _ _ _ _ _ => N - (intOf iv).toNat)
  case atStart => exact ⟨0, 0, Nat.zero_le _, Nat.zero_le _, rfl, World.ownsRow_nil _ _ _ _, rfl, Below.refl _ _⟩
  case round =>
  obtain ⟨i, m, hi, hm3, rfl, hO, hml, hB⟩ := hrel
  by_cases hin : i < N
  · obtain ⟨p, hp⟩ : ∃ p, PS[i]? = some p := ⟨PS[i]'(by have := HNN.out; omega), List.getElem?_eq_getElem _⟩
    have hpl := HS3.out p (List.mem_of_getElem? hp)
    obtain ⟨a1', k1', hre, hrc1, hrc2, hrx⟩ := HG2.out
    obtain ⟨rfl, hrn, rfl⟩ : a1 = a1' ∧ N = PS.length ∧ k1 = k1' := by simpa using hre
    obtain ⟨g, o, rfl, hg, hy⟩ := hrx (by omega)
    obtain ⟨u, hc, hu, hzu⟩ := hy i p hp
    have hcw : wr.cell? ⟨g, o + i, none⟩ = some u := (hB.out.cell (p := ⟨g, o + i, none⟩) hg).trans hc
    have HGX := Hid.mk' hg
    have HU := Hid.mk' (hu.below hB.out)
    obtain ⟨np, hnp⟩ : ∃ x, p.length = x := ⟨_, rfl⟩
    obtain ⟨a, cp, hue, _⟩ := hu
    rw [hnp] at hue hpl
    subst hue
    have HNP := Hid.mk' hnp
    have HPT : Hid (PS.take (i + 1) = PS.take i ++ [p]) := by
      show _ = _
      rw [List.take_add_one, hp]
      rfl
    obtain ⟨k', hk'⟩ : ∃ x, (blocks ep p).length = x := ⟨_, rfl⟩
    have hkk : k' = 1 + (np - 245 + 254) / 255 := by rw [← hk', blocks_len, hnp]
    have hk3 : 1 ≤ k' ∧ k' ≤ 3 := by omega
    have C2 : Hid (Calls Tryd.prog 6 #[.int .u32 (ep : Int), .slice a np cp] wr fun e w' => ∃ gr cr, e = .returned (.tuple #[.slice (some ⟨gr, 0, none⟩) k' cr, .nilIface]) ∧ w'.ownsRow wr.heap.size 9 1 (.slice (some ⟨gr, 0, none⟩) k' cr) k' ((blocks ep p).map Nm.txt) ∧ Below wr.heap.size wr w') := by
      refine (SF wr ep (.slice a np cp) p hep HU.out hzu (by omega)).mono ?_
      rintro e w' ⟨r, rfl, ho, hb⟩
      rw [framed, if_neg (by omega)] at ho
      rw [if_neg (by omega)]
      rw [hk'] at ho
      rcases ho.2 with ⟨rfl, h0⟩ | ⟨gr, cr, cur, rfl, _⟩
      · omega
      · exact ⟨gr, cr, rfl, ho, hb⟩
    obtain ⟨BB, hBB⟩ : ∃ x, (blocks ep p).map Nm.txt = x := ⟨_, rfl⟩
    have HBB := Hid.mk' hBB
    have HBL : Hid (BB.length = k') := by show _ = _; rw [← hBB, List.length_map, hk']
    have HKK := Hid.mk' hk'
    have hone : Hid (∀ x ∈ BB, x.oneCell' = true) := by
      intro x hx
      rw [← hBB] at hx
      obtain ⟨b, _, rfl⟩ := List.mem_map.1 hx
      rfl
    have hiI : (i : Int) < (N : Int) := by omega
    have hi0 : (0 : Int) ≤ (i : Int) := by omega
    have hmx : Hid (m + k' ≤ maxLen) := by show _ ≤ _; unfold maxLen; omega
    have hby : Hid ((m + k') * 16 ≤ 140737488355328) := by show _ ≤ _; omega
    have hk0 : Hid (0 < k') := hk3.1
    have hkt : Hid (k' ≤ 3) := hk3.2
    have hqI : (245 : Int) < (np : Int) → ((np : Int) - 245 + 254).tdiv 255 = ((k' - 1 : Nat) : Int) := fun h => by
      rw [Int.tdiv_eq_ediv_of_nonneg (by omega)]
      omega
    have HQI := Hid.mk' hqI
    have HK245 : Hid (¬ 245 < np → k' = 1) := fun h => by omega
    have hk1 : ((k' - 1 : Nat) : Int) = (k' : Int) - 1 := by omega
    have HK1 := Hid.mk' hk1
    clear hp hy hc hzu hnp hk' hBB hre hrx hg hkk hqI hk1 hrn
    go_wp2_with fail
    refine C2.out.mono ?_
    rintro e x3 ⟨gr, cr, rfl, ho, hb⟩
    have HO3 := Hid.mk' (own_keptB hO.out hb)
    have HB3 := Hid.mk' (hB.out.trans (hb.mono hB.out.size))
    rw [HBB.out] at ho
    have HR3 := Hid.mk' ho
    have HGR : Hid (gr < x3.heap.size) := (ho.lt gr rfl).2
    have hcw3 : x3.cell? ⟨g, o + i, none⟩ = some (.slice a np cp) := (hb.cell (p := ⟨g, o + i, none⟩) (Nat.lt_of_lt_of_le HGX.out hB.out.size)).trans hcw
    have HTX : Hid (∀ j, j < k' → ∃ tt, x3.cell? ⟨gr, j, none⟩ = some (.string (tx tt)) ∧ tt.length ≤ 256) := fun j hj => by
      have hjb : j < (blocks ep p).length := by rw [HKK.out]; exact hj
      refine ⟨(blocks ep p)[j], ?_, blocks_short ep p _ (List.getElem_mem hjb)⟩
      have := ho.cells (g := gr) rfl j (Nm.txt (blocks ep p)[j]) (by rw [← HBB.out, List.getElem?_map, List.getElem?_eq_getElem hjb]; rfl)
      rw [Addr.add_lit, Nat.zero_add] at this
      exact this
    clear ho hb C2 hcw hO hB
    by_cases h245 : 245 < np
    · have hI : (245 : Int) < (np : Int) := by omega
      have hq := HQI.out hI
      rw [HK1.out] at hq
      go_wp2
      go_loopw [12] (fun jv wq => ∃ j : Nat, j ≤ k' ∧ jv = nu (j : Int) ∧ Hid (Below x3.heap.size x3 wq)) (fun jv _ => k' - (intOf jv).toNat)
      case atStart => exact ⟨0, Nat.zero_le _, rfl, Below.refl _ _⟩
      case round =>
      obtain ⟨j, hj, rfl, hBq⟩ := hrel
      by_cases hjk : j < k'
      · obtain ⟨tt, htt, htl⟩ := HTX.out j hjk
        have hct : wr.cell? ⟨gr, j, none⟩ = some (.string (tx tt)) := (hBq.out.cell (p := ⟨gr, j, none⟩) HGR.out).trans htt
        have hts : (tx tt).size = tt.length := rfl
        obtain ⟨f, hf⟩ : ∃ f, tx tt = f := ⟨_, rfl⟩
        rw [hf] at hct hts
        have hfI : ¬ (256 : Int) < (f.size : Int) := by omega
        have hjI : (j : Int) < (k' : Int) := by omega
        clear hf hts htt htl
        go_wp2
        go_roundw
        case rel => exact ⟨j + 1, by omega, by go_num, hBq⟩
        case measure => simp [intOf]; omega
      · obtain rfl : j = k' := by omega
        have HOx := Hid.mk' (own_keptB HO3.out hBq.out)
        have HBx := Hid.mk' (HB3.out.trans (hBq.out.mono HB3.out.size))
        have HCx : Hid (∀ q v, BB[q]? = some v → wr.cell? ((⟨gr, 0, none⟩ : Addr).add q) = some v) := fun q v hq => (own_keptB HR3.out hBq.out).cells (g := gr) rfl q v hq
        clear hj hjk
        go_wp2_with (at_builtin; refine wpList_append_lies _ rfl _ _ 25 rfl x2.heap.size 9 i0 (.string ⟨#[]⟩) 1 16 Tryd.underlying25 ji hz0 hz1 hz2 rfl (by decide) _ m _ rfl HOx.out ⟨gr, 0, none⟩ j cr BB rfl (by have := HBL.out; omega) HCx.out hone.out hk0.out hmx.out hby.out HBx.out.size _ rfl ?_; intro g3 c3 w3 ho hg hl hlt; have HO4 := Hid.mk' ho; have HB4 : Hid (Below x2.heap.size x2 w3) := Below.grown HBx.out hg HBx.out.size (fun q hq => (HOx.out.lt q hq).1); clear ho hg hl hlt)
        go_roundw
        case rel =>
          refine ⟨i + 1, m + j, by omega, by have := hkt.out; omega, by go_num, ?_, ?_, HB4⟩
          · show World.ownsRow _ _ _ _ _ _ _
            rw [HPT.out, flat_snoc, List.map_append, HBB.out]
            exact HO4.out
          · show _ = _
            rw [HPT.out, flat_snoc, List.length_append, hml.out, HKK.out]
        case measure =>
          simp [intOf]
          omega
    · have hI : ¬ (245 : Int) < (np : Int) := by omega
      obtain rfl : k' = 1 := HK245.out h245
      go_wp2
      go_loopw [12] (fun jv wq => ∃ j : Nat, j ≤ 1 ∧ jv = nu (j : Int) ∧ Hid (Below x3.heap.size x3 wq)) (fun jv _ => 1 - (intOf jv).toNat)
      case atStart => exact ⟨0, Nat.zero_le _, rfl, Below.refl _ _⟩
      case round =>
      obtain ⟨j, hj, rfl, hBq⟩ := hrel
      by_cases hjk : j < 1
      · obtain ⟨tt, htt, htl⟩ := HTX.out j hjk
        have hct : wr.cell? ⟨gr, j, none⟩ = some (.string (tx tt)) := (hBq.out.cell (p := ⟨gr, j, none⟩) HGR.out).trans htt
        have hts : (tx tt).size = tt.length := rfl
        obtain ⟨f, hf⟩ : ∃ f, tx tt = f := ⟨_, rfl⟩
        rw [hf] at hct hts
        have hfI : ¬ (256 : Int) < (f.size : Int) := by omega
        have hjI : (j : Int) < (1 : Int) := by omega
        clear hf hts htt htl
        go_wp2
        go_roundw
        case rel => exact ⟨j + 1, by omega, by go_num, hBq⟩
        case measure => simp [intOf]; omega
      · obtain rfl : j = 1 := by omega
        have HOx := Hid.mk' (own_keptB HO3.out hBq.out)
        have HBx := Hid.mk' (HB3.out.trans (hBq.out.mono HB3.out.size))
        have HCx : Hid (∀ q v, BB[q]? = some v → wr.cell? ((⟨gr, 0, none⟩ : Addr).add q) = some v) := fun q v hq => (own_keptB HR3.out hBq.out).cells (g := gr) rfl q v hq
        clear hj hjk
        go_wp2_with (at_builtin; refine wpList_append_lies _ rfl _ _ 25 rfl x2.heap.size 9 i0 (.string ⟨#[]⟩) 1 16 Tryd.underlying25 ji hz0 hz1 hz2 rfl (by decide) _ m _ rfl HOx.out ⟨gr, 0, none⟩ 1 cr BB rfl (by have := HBL.out; omega) HCx.out hone.out hk0.out hmx.out hby.out HBx.out.size _ rfl ?_; intro g3 c3 w3 ho hg hl hlt; have HO4 := Hid.mk' ho; have HB4 : Hid (Below x2.heap.size x2 w3) := Below.grown HBx.out hg HBx.out.size (fun q hq => (HOx.out.lt q hq).1); clear ho hg hl hlt)
        go_roundw
        case rel =>
          refine ⟨i + 1, m + 1, by omega, by have := hkt.out; omega, by go_num, ?_, ?_, HB4⟩
          · show World.ownsRow _ _ _ _ _ _ _
            rw [HPT.out, flat_snoc, List.map_append, HBB.out]
            exact HO4.out
          · show _ = _
            rw [HPT.out, flat_snoc, List.length_append, hml.out, HKK.out]
        case measure =>
          simp [intOf]
          omega
  · obtain rfl : i = N := by omega
    have hfin : Hid (PS.take i = PS) := by
      show _ = _
      rw [List.take_of_length_le (by rw [HNN.out]; exact Nat.le_refl _)]
    rw [hfin.out] at hO hml
    have HBW := Hid.mk' (HB2.out.trans (hB.out.mono HB2.out.size))
    obtain ⟨ab, cb, hbv, _⟩ := Nm.own_shape hO.out
    subst hbv
    have C := Hid.mk' (Nm.same_l (.slice ab m cb) (.slice al k cl) (flat ep PS) (flat ep PS) wr (Nm.rd_own (by rw [hml.out]; exact hO.out)) (HRT.out _ HBW.out))
    rw [decide_eq_true rfl] at C
    clear hO hml hm3
    go_wp2_with fail
    refine C.out.mono ?_
    rintro e x9 ⟨rfl, j, rfl⟩
    have HBZ := Hid.mk' (below_dn HBW.out j)
    generalize wr.drewN j = x9 at *
    go_wp2
    go_ret
    exact ⟨rfl, HBZ.out⟩
end Rc
end Go.Proofs.YtjnodkjeiogloaaDoor
