/- Mark, ApartP, Apart, SayD, in one text. -/
import Derived.Test.YthdibodmnpcekaaGreatDoorNamM
import Derived.Test.YthdibodmnpcekaaGreatDoorOwn
import Derived.Deep.CutBlock
import Derived.Deep.RegionWith
import Derived.Test.YthdibodmnpcekaaGreatDoorBlkM
import Derived.Test.YthdibodmnpcekaaGreatDoorErrM
/- The marks that lists are written over with. -/
namespace Go.Proofs.YthdibodmnpcekaaGreatDoor
open Go.RowKit
namespace Nm

def bytesOf (ns : List Int) : ByteArray := ns.foldl (fun r n => r.push (UInt8.ofNat n.toNat)) ByteArray.empty

theorem run_conv5 (w : World) (a0 a1 a2 a3 a4 : Int) :
    Sem.run Tryz.prog (convert 46 9 (.slice (some ⟨w.heap.size, 0, none⟩) 5 5)) (w.alloc (.cells #[.int .u8 a0, .int .u8 a1, .int .u8 a2, .int .u8 a3, .int .u8 a4] 5)) =
      .ok (.string (bytesOf [a0, a1, a2, a3, a4])) (w.alloc (.cells #[.int .u8 a0, .int .u8 a1, .int .u8 a2, .int .u8 a3, .int .u8 a4] 5)) := by
  rw [run_convert_bytes_string _ 46 9 5 _ 5 5 Tryz.underlying46 Tryz.underlying5 Tryz.underlying9]
  refine run_bytesToString _ _ 5 5 [a0, a1, a2, a3, a4] ?_
  refine run_loadCells_list (w.alloc (.cells #[.int .u8 a0, .int .u8 a1, .int .u8 a2, .int .u8 a3, .int .u8 a4] 5)) ⟨w.heap.size, 0, none⟩ [.int .u8 a0, .int .u8 a1, .int .u8 a2, .int .u8 a3, .int .u8 a4] ?_
  intro j v h
  match j, h with
  | 0, h => simp at h; subst h; simp [Addr.add]
  | 1, h => simp at h; subst h; simp [Addr.add]
  | 2, h => simp at h; subst h; simp [Addr.add]
  | 3, h => simp at h; subst h; simp [Addr.add]
  | 4, h => simp at h; subst h; simp [Addr.add]
  | n + 5, h => simp at h

def markS (k i : Nat) : ByteArray := bytesOf [35, (k : Int) % 256, (k : Int) / 256 % 256, (i : Int) % 256, (i : Int) / 256 % 256]

def markT (k i : Nat) : Value := .string (markS k i)

end Nm
end Go.Proofs.YthdibodmnpcekaaGreatDoor
/- What writing over lists, and appending to them, leaves of others that lie in blocks of their own. -/
namespace Go.Proofs.YthdibodmnpcekaaGreatDoor
open Go.RowKit
namespace Nm

def marks (k n : Nat) : List Value := (List.range n).map (markT k)

theorem marks_len (k n : Nat) : (marks k n).length = n := by simp [marks]
theorem marks_succ (k n : Nat) : marks k (n + 1) = marks k n ++ [markT k n] := by simp [marks, List.range_succ]
theorem marks_at (k n i : Nat) (h : i < n) : (marks k n)[i]? = some (markT k i) := by simp [marks, h]

/-- The list of lists lies at block L; each list is owned; its cells are told by f. -/
structure Ls (w : World) (base L : Nat) (vs : List Value) (ln : Nat → Nat) (f : Nat → List Value) : Prop where
  own : ∀ l (h : l < vs.length), w.ownsRow base 9 1 vs[l] (ln l) (f l)
  cell : ∀ l (h : l < vs.length), w.cell? ⟨L, l, none⟩ = some vs[l]
  lt : L < w.heap.size
  le : base ≤ w.heap.size

theorem Ls.below {w w' : World} {base L : Nat} {vs : List Value} {ln : Nat → Nat} {f : Nat → List Value} (h : Ls w base L vs ln f) (hb : Below w.heap.size w w') : Ls w' base L vs ln f :=
  ⟨fun l hl => own_below (h.own l hl) hb, fun l hl => (hb.cell (p := ⟨L, l, none⟩) h.lt).trans (h.cell l hl), Nat.lt_of_lt_of_le h.lt hb.size, Nat.le_trans h.le hb.size⟩

/-- Lists in blocks of their own, none of them the list of lists'. -/
structure Apart (L : Nat) (vs : List Value) : Prop where
  sep : ∀ l m (h : l < vs.length) (h' : m < vs.length), l ≠ m → Sep vs[l] vs[m]
  off : ∀ l (h : l < vs.length), vs[l].ownBlock ≠ some L

theorem Ls.set {w : World} {base L : Nat} {vs : List Value} {ln : Nat → Nat} {f : Nat → List Value} (h : Ls w base L vs ln f) (ha : Apart L vs) (k i g cap : Nat) (hk : k < vs.length) (hv : vs[k] = .slice (some ⟨g, 0, none⟩) (ln k) cap) (u : Value) :
    Ls (w.setCell ⟨g, i, none⟩ u) base L vs ln (fun l => if l = k then (f k).set i u else f l) := by
  have hgb : vs[k].ownBlock = some g := by rw [hv]; rfl
  refine ⟨fun l hl => ?_, fun l hl => ?_, by simpa [World.setCell] using h.lt, by simpa [World.setCell] using h.le⟩
  · by_cases hlk : l = k
    · subst hlk
      simp only [if_true]
      have := h.own l hl
      rw [hv] at this ⊢
      exact own_set this i u
    · simp only [hlk, if_false]
      exact own_setOther (h.own l hl) _ u (fun e => ha.sep l k hl hk hlk g e hgb)
  · have hne : L ≠ g := fun e => ha.off k hk (by rw [hgb, e])
    rw [← h.cell l hl]
    exact World.cell?_of_block (w := w) (Below.heap_setCell _ _ _ _ hne)

theorem take_set_succ (xs : List Value) (i : Nat) (u : Value) (h : i < xs.length) : (xs.set i u).take (i + 1) = xs.take i ++ [u] := by
  rw [List.take_set, List.take_succ_eq_append_getElem h]
  rw [List.set_append_right _ _ (by rw [List.length_take]; omega)]
  have : i - (List.take i xs).length = 0 := by rw [List.length_take]; omega
  rw [this]; rfl

theorem below_from {w a b : World} (h : Below w.heap.size w a) (k : Below a.heap.size a b) : Below w.heap.size w b := below_then h k

theorem store_facts {w w5 : World} {base L : Nat} {vs : List Value} {ln : Nat → Nat} {f : Nat → List Value} {k i g cap : Nat} (h : Ls w base L vs ln f) (hk : k < vs.length) (hv : vs[k] = .slice (some ⟨g, 0, none⟩) (ln k) cap) (hi : i < ln k) (hb : Below w.heap.size w w5) :
    ∃ u, w5.cell? ⟨g, i, none⟩ = some u ∧ w5.frozen? ⟨g, i, none⟩ = false ∧ w5.cell? ⟨L, k, none⟩ = some (.slice (some ⟨g, 0, none⟩) (ln k) cap) := by
  have h5 := h.below hb
  have ho := h5.own k hk
  rw [hv] at ho
  obtain ⟨⟨u, _, hcu⟩, hfz⟩ := own_cell ho i hi
  exact ⟨u, hcu, hfz, by rw [← hv]; exact h5.cell k hk⟩

theorem store_step {w0 w w5 : World} {base L : Nat} {vs : List Value} {ln : Nat → Nat} {f : Nat → List Value} {k i g cap : Nat} (h : Ls w base L vs ln f) (ha : Apart L vs) (hk : k < vs.length) (hv : vs[k] = .slice (some ⟨g, 0, none⟩) (ln k) cap) (hi : i < ln k) (hb : Below w.heap.size w w5)
    (hf : ∀ l, l < k → f l = marks l (ln l)) (hfk : (f k).take i = marks k i) (hb0 : Below base w0 w) :
    ∃ f' : Nat → List Value, Hid (Ls (w5.setCell ⟨g, i, none⟩ (.string (markS k i))) base L vs ln f') ∧ Hid (∀ l, l < k → f' l = marks l (ln l)) ∧ Hid ((f' k).take (i + 1) = marks k (i + 1)) ∧ Hid (Below base w0 (w5.setCell ⟨g, i, none⟩ (.string (markS k i)))) := by
  have h5 := h.below hb
  have hlen : (f k).length = ln k := by have := (h.own k hk).1; omega
  have hbg : base ≤ g := ((h.own k hk).lt g (by rw [hv]; rfl)).1
  refine ⟨_, h5.set ha k i g cap hk hv (.string (markS k i)), fun l hl => ?_, ?_, Below.setCell (hb0.trans (hb.mono h.le)) hbg _⟩
  · have : l ≠ k := by omega
    simp only [this, if_false]; exact hf l hl
  · show (if k = k then (f k).set i (.string (markS k i)) else f k).take (i + 1) = marks k (i + 1)
    rw [if_pos rfl, take_set_succ _ _ _ (by omega), hfk, marks_succ]; rfl

theorem sep_grew {w w' : World} {base : Nat} {e : TypeId} {v v' : Value} {n : Nat} {xs : List Value} {m : Nat} {news : List Value} (h : Grew w w' base e 1 v v' n xs m news) {x : Value} {bx : Nat} {ex : TypeId} {nx : Nat} {ys : List Value} (hx : w.ownsRow bx ex 1 x nx ys) (hs : Sep v x) : Sep v' x := by
  rcases h.place with hp | ⟨b, hp, hb⟩
  · intro c hc; rw [hp] at hc; exact hs c hc
  · intro c hc hxc
    rw [hp] at hc
    have := (hx.lt c hxc).2
    simp only [Option.some.injEq] at hc
    omega

theorem kept_sep {w w' : World} {v x : Value} {bx : Nat} {ex : TypeId} {nx : Nat} {ys : List Value} (hg : w.grownBy w' v.ownBlock) (hx : w.ownsRow bx ex 1 x nx ys) (hs : Sep v x) : w'.ownsRow bx ex 1 x nx ys := by
  refine hx.kept hg ?_
  cases hxo : x.ownBlock with
  | none => exact Or.inl rfl
  | some c => right; intro e; exact hs c e.symm hxo

theorem Ls.grown {w w' : World} {base L : Nat} {vs : List Value} {ln : Nat → Nat} {f : Nat → List Value} {v : Value} (h : Ls w base L vs ln f) (hg : w.grownBy w' v.ownBlock) (hoff : v.ownBlock ≠ some L) (hown : ∀ l (hl : l < vs.length), w'.ownsRow base 9 1 vs[l] (ln l) (f l)) : Ls w' base L vs ln f :=
  ⟨hown, fun l hl => (World.cell?_of_block (a := ⟨L, l, none⟩) (hg.block L h.lt (fun e => hoff e.symm))).trans (h.cell l hl), Nat.lt_of_lt_of_le h.lt hg.size, Nat.le_trans h.le hg.size⟩

/-- The lists that were appended to. -/
structure Gs (w : World) (base L : Nat) (vs : List Value) (ln : Nat → Nat) (gl : List Value) (gv : Value) : Prop where
  ls : Ls w base L vs ln (fun l => marks l (ln l))
  gown : ∀ l (h : l < gl.length), w.ownsRow base 9 1 gl[l] (ln l + 64) (marks l (ln l + 64))
  row : w.ownsRow base 63 1 gv gl.length gl
  sepv : ∀ l (h : l < vs.length), Sep gv vs[l]
  sepg : ∀ l (h : l < gl.length), Sep gv gl[l]
  sepo : ∀ l (h : l < gl.length) m (h' : m < vs.length), l ≠ m → Sep gl[l] vs[m]
  off : gv.ownBlock ≠ some L

theorem Gs.below {w w' : World} {base L : Nat} {vs : List Value} {ln : Nat → Nat} {gl : List Value} {gv : Value} (h : Gs w base L vs ln gl gv) (hb : Below w.heap.size w w') : Gs w' base L vs ln gl gv :=
  ⟨h.ls.below hb, fun l hl => own_below (h.gown l hl) hb, own_below h.row hb, h.sepv, h.sepg, h.sepo, h.off⟩

/-- The list that is being appended to. -/
structure Cur (w : World) (base L : Nat) (vs : List Value) (ln : Nat → Nat) (gl : List Value) (gv : Value) (i : Nat) (c : Value) : Prop where
  gs : Gs w base L vs ln gl gv
  own : w.ownsRow base 9 1 c (ln gl.length + i) (marks gl.length (ln gl.length + i))
  sepv : ∀ m (h : m < vs.length), gl.length ≠ m → Sep c vs[m]
  sepg : ∀ l (h : l < gl.length), Sep c gl[l]
  seps : Sep c gv
  off : c.ownBlock ≠ some L

theorem Cur.below {w w' : World} {base L : Nat} {vs : List Value} {ln : Nat → Nat} {gl : List Value} {gv : Value} {i : Nat} {c : Value} (h : Cur w base L vs ln gl gv i c) (hb : Below w.heap.size w w') : Cur w' base L vs ln gl gv i c :=
  ⟨h.gs.below hb, own_below h.own hb, h.sepv, h.sepg, h.seps, h.off⟩

theorem Cur.start {w : World} {base L : Nat} {vs : List Value} {ln : Nat → Nat} {gl : List Value} {gv : Value} (h : Gs w base L vs ln gl gv) (ha : Apart L vs) (hk : gl.length < vs.length) : Cur w base L vs ln gl gv 0 vs[gl.length] :=
  ⟨h, h.ls.own _ hk, fun m hm hne => ha.sep _ m hk hm hne, fun l hl => (h.sepo l hl _ hk (by omega)).symm, (h.sepv _ hk).symm, ha.off _ hk⟩

theorem Cur.step {w w' : World} {base L : Nat} {vs : List Value} {ln : Nat → Nat} {gl : List Value} {gv : Value} {i : Nat} {c c' : Value} (h : Cur w base L vs ln gl gv i c)
    (hg : Grew w w' base 9 1 c c' (ln gl.length + i) (marks gl.length (ln gl.length + i)) 1 [markT gl.length (ln gl.length + i)]) : Cur w' base L vs ln gl gv (i + 1) c' := by
  have hls : Ls w' base L vs ln (fun l => marks l (ln l)) := h.gs.ls.grown hg.grown h.off (fun l hl => by
    by_cases hlk : gl.length = l
    · subst hlk
      exact hg.keep _ _ _ _ (h.gs.ls.own _ hl) (by omega)
    · exact kept_sep hg.grown (h.gs.ls.own l hl) (h.sepv l hl hlk))
  refine ⟨⟨hls, fun l hl => kept_sep hg.grown (h.gs.gown l hl) (h.sepg l hl), kept_sep hg.grown h.gs.row h.seps, h.gs.sepv, h.gs.sepg, h.gs.sepo, h.gs.off⟩, ?_, ?_, ?_, ?_, ?_⟩
  · have := hg.own
    rw [← marks_succ] at this
    exact this
  · intro m hm hne; exact sep_grew hg (h.gs.ls.own m hm) (h.sepv m hm hne)
  · intro l hl; exact sep_grew hg (h.gs.gown l hl) (h.sepg l hl)
  · exact sep_grew hg h.gs.row h.seps
  · rcases hg.place with hp | ⟨b, hp, hb⟩
    · rw [hp]; exact h.off
    · rw [hp]; intro e; simp only [Option.some.injEq] at e; have := h.gs.ls.lt; omega

theorem Gs.step {w w' : World} {base L : Nat} {vs : List Value} {ln : Nat → Nat} {gl : List Value} {gv gv' : Value} {c : Value} (h : Cur w base L vs ln gl gv 64 c)
    (hg : Grew w w' base 63 1 gv gv' gl.length gl 1 [c]) : Gs w' base L vs ln (gl ++ [c]) gv' := by
  have hls : Ls w' base L vs ln (fun l => marks l (ln l)) := h.gs.ls.grown hg.grown h.gs.off (fun l hl => kept_sep hg.grown (h.gs.ls.own l hl) (h.gs.sepv l hl))
  have hget : ∀ l (hl : l < (gl ++ [c]).length), (∃ hl' : l < gl.length, (gl ++ [c])[l] = gl[l]) ∨ (l = gl.length ∧ (gl ++ [c])[l] = c) := by
    intro l hl
    rcases Nat.lt_or_ge l gl.length with h' | h'
    · left; exact ⟨h', List.getElem_append_left h'⟩
    · right
      have : l = gl.length := by simp at hl; omega
      subst this
      exact ⟨rfl, by simp⟩
  refine ⟨hls, ?_, ?_, ?_, ?_, ?_, ?_⟩
  · intro l hl
    rcases hget l hl with ⟨hl', e⟩ | ⟨rfl, e⟩
    · rw [e]; exact kept_sep hg.grown (h.gs.gown l hl') (h.gs.sepg l hl')
    · rw [e]; exact kept_sep hg.grown h.own h.seps.symm
  · have := hg.own
    simpa using this
  · intro l hl; exact sep_grew hg (h.gs.ls.own l hl) (h.gs.sepv l hl)
  · intro l hl
    rcases hget l hl with ⟨hl', e⟩ | ⟨rfl, e⟩
    · rw [e]; exact sep_grew hg (h.gs.gown l hl') (h.gs.sepg l hl')
    · rw [e]; exact sep_grew hg h.own h.seps.symm
  · intro l hl m hm hne
    rcases hget l hl with ⟨hl', e⟩ | ⟨rfl, e⟩
    · rw [e]; exact h.gs.sepo l hl' m hm hne
    · rw [e]; exact h.sepv m hm hne
  · rcases hg.place with hp | ⟨b, hp, hb⟩
    · rw [hp]; exact h.gs.off
    · rw [hp]; intro e; simp only [Option.some.injEq] at e; have := h.gs.ls.lt; omega

theorem Tryz.info63 : (Tryz.prog.info? 63).map (fun i => (i.zero, i.size, i.bytes)) = some (some (.slice none 0 0), 1, 24) := by kernel_rfl

end Nm
end Go.Proofs.YthdibodmnpcekaaGreatDoor
/- ApartTexts answers true of lists that lie in blocks of their own. -/
namespace Go.Proofs.YthdibodmnpcekaaGreatDoor
open Go.RowKit
namespace Nm

theorem row_cell {w : World} {base : Nat} {gl : List Value} {gg cg : Nat} (h : w.ownsRow base 63 1 (.slice (some ⟨gg, 0, none⟩) gl.length cg) gl.length gl) (k : Nat) (hk : k < gl.length) : w.cell? ⟨gg, k, none⟩ = some gl[k] := by
  obtain ⟨⟨u, h1, h2⟩, _⟩ := own_cell h k hk
  rw [List.getElem?_eq_getElem hk] at h1
  rw [h2, ← h1]

theorem mark_cell {w : World} {base : Nat} {g c k n : Nat} (h : w.ownsRow base 9 1 (.slice (some ⟨g, 0, none⟩) n c) n (marks k n)) (i : Nat) (hi : i < n) : w.cell? ⟨g, i, none⟩ = some (.string (markS k i)) := by
  obtain ⟨⟨u, h1, h2⟩, _⟩ := own_cell h i hi
  rw [marks_at k n i hi] at h1
  rw [h2, ← h1]; rfl

end Nm
end Go.Proofs.YthdibodmnpcekaaGreatDoor
/- What the law on Frame shares: errors without a place, the document's Frame, two lists apart. -/
namespace Go.Proofs.YthdibodmnpcekaaGreatDoor
set_option linter.ambiguousOpen false
open Go.RowKit
namespace Rc
open Sm Pk
set_option linter.unusedSimpArgs false
set_option linter.unusedVariables false

theorem plainR (n : Nat) (h : n ≤ 24) (w : World) (hg : Er.Handle w) : Calls Tryz.prog 10 #[errE n, nu n] w fun e w' => e = .returned (.bool true) ∧ Below w.heap.size w w' := by
  cases n with
  | zero => exact Er.plain_nil 0 w
  | succ n =>
    have := Er.plain_no (n + 1) ((n + 1 : Nat) : Int) (by omega) h w hg
    rw [decide_eq_true rfl] at this
    exact this

/-- The document's Frame. -/
theorem refframe (ep : Nat) (v : Value) (p : List UInt8) (w : World) (hep : ep < 4294967296) (hR : RdB w v p) (hz : Nz v) (hl : p.length ≤ 140737488351232) :
    Calls Tryz.prog 50 #[.int .u32 (ep : Int), v] w fun e w' => ∃ r, e = .returned (.tuple #[r, nu ((if 512 < p.length then 3 else 0 : Nat) : Int)]) ∧ w'.ownsRow w.heap.size 9 1 r (framed ep p).length ((framed ep p).map Nm.txt) ∧ Below w.heap.size w w' := by
  by_cases h : 512 < p.length
  · rw [framed, if_pos h, if_pos h]
    obtain ⟨a, cap, rfl, _⟩ := hR
    have hI : (512 : Int) < (p.length : Int) := by omega
    go_enter Tryz.func50, Tryz.ntmps50
    go_wp2
    go_ret2
    exact ⟨_, rfl, World.ownsRow_nil _ _ _ _, Below.refl _ _⟩
  · rw [framed, if_neg h, if_neg h]
    have c := Hid.mk' (refblocks ep v p w hep hR hz (by omega))
    obtain ⟨a, cap, rfl, _⟩ := hR
    have hI : ¬ (512 : Int) < (p.length : Int) := by omega
    clear hz
    go_enter Tryz.func50, Tryz.ntmps50
    go_wp2_with fail
    refine c.out.mono ?_
    rintro e w1 ⟨x, rfl, ho, hb⟩
    have HO := Hid.mk' ho
    have HB := Hid.mk' hb
    obtain ⟨a1, c1, rfl, _⟩ := Nm.own_shape ho
    clear ho hb
    go_wp2
    go_ret2
    exact ⟨_, rfl, HO.out, HB.out⟩

theorem two_ls {w : World} {base : Nat} {va vb : Value} {n : Nat} {xs : List Value} (ha : w.ownsRow base 9 1 va n xs) (hb : w.ownsRow base 9 1 vb n xs) (hle : base ≤ w.heap.size) :
    Nm.Ls (w.alloc (.cells #[va, vb] 63)) base w.heap.size [va, vb] (fun _ => n) (fun _ => xs) := by
  refine ⟨?_, ?_, by simp, by simp; omega⟩
  · intro l hl
    match l, hl with
    | 0, _ => exact ha.alloc _
    | 1, _ => exact hb.alloc _
  · intro l hl
    match l, hl with
    | 0, _ => simp
    | 1, _ => simp

theorem two_apart {w : World} {base : Nat} {va vb : Value} {n : Nat} {xs : List Value} (ha : w.ownsRow base 9 1 va n xs) (hb : w.ownsRow base 9 1 vb n xs) (hs : Nm.Sep va vb) : Nm.Apart w.heap.size [va, vb] := by
  refine ⟨?_, ?_⟩
  · intro l m hl hm hne
    match l, m, hl, hm with
    | 0, 0, _, _ => exact absurd rfl hne
    | 0, 1, _, _ => exact hs
    | 1, 0, _, _ => exact hs.symm
    | 1, 1, _, _ => exact absurd rfl hne
  · intro l hl
    match l, hl with
    | 0, _ => intro e; have := (ha.lt _ e).2; omega
    | 1, _ => intro e; have := (hb.lt _ e).2; omega

end Rc
end Go.Proofs.YthdibodmnpcekaaGreatDoor
