/- LogP, LogG, LogW, LogA, in one text. -/
import Derived.Test.YthdibodmnpcekaaGreatDoorDiskP
import Derived.Test.YthdibodmnpcekaaGreatDoorRecM
import Derived.Test.YthdibodmnpcekaaGreatDoorBlkM
import Derived.Test.YthdibodmnpcekaaGreatDoorErrM
import Derived.Deep.RegionHeld3
import Derived.Test.YthdibodmnpcekaaGreatDoorPrgT
/- A log's state, and what its calls answer, in plain words; what is there behind an Append. No program is named here but a disk's state. -/
namespace Go.Proofs.YthdibodmnpcekaaGreatDoor
set_option linter.ambiguousOpen false
open Go.RowKit
namespace Lo
open Sm Ft Dk Rc
set_option linter.unusedSimpArgs false
set_option linter.unusedVariables false

/-- A log. -/
structure Lg where
  at_ : Int
  n : Int
  ep : Nat
  used : Nat
  recs : Nat
  dead : Bool

/-- Its cells, on the disk at p. -/
@[reducible] def lgV (p : Nat) (l : Lg) : Array Value := #[ptr p, nu l.at_, nu l.n, .int .u32 (l.ep : Int), nu (l.used : Int), nu (l.recs : Int), .bool l.dead]

/-- May it lie there? -/
def may (d : Dsk) (a n : Int) : Bool := decide (0 ≤ a ∧ 1 ≤ n ∧ n ≤ d.n - a)

/-- The blocks k - 1 .. 0 of bs are written behind b, the last one first, as long as the power lasts. -/
def dn (b : Int) (bs : List (List UInt8)) : Nat → Dsk → Nat × Dsk
  | 0, d => (0, d)
  | k + 1, d => if wrN d (b + (k : Int)) (bs.getD k []) = 0 then dn b bs k (wrD d (b + (k : Int)) (bs.getD k [])) else (22, d)

/-- What Append answers, the disk and the log behind it. -/
def app (l : Lg) (d : Dsk) (p : List UInt8) : Nat × Dsk × Lg :=
  if l.dead = true then (22, d, l)
  else if 512 < p.length then (3, d, l)
  else if l.n - (l.used : Int) < ((blocks l.ep p).length : Int) then (19, d, l)
  else if (dn (l.at_ + (l.used : Int)) (blocks l.ep p) (blocks l.ep p).length d).1 = 0 then (0, (dn (l.at_ + (l.used : Int)) (blocks l.ep p) (blocks l.ep p).length d).2, { l with used := l.used + (blocks l.ep p).length, recs := l.recs + 1 })
  else (22, (dn (l.at_ + (l.used : Int)) (blocks l.ep p) (blocks l.ep p).length d).2, { l with dead := true })

/-- A log that lies on a disk, with numbers that are small. -/
structure Fit (l : Lg) (d : Dsk) : Prop where
  a0 : 0 ≤ l.at_
  n1 : 1 ≤ l.n
  an : l.at_ + l.n ≤ d.n
  dn : d.n ≤ 4096
  us : (l.used : Int) ≤ l.n
  ep : l.ep < 4294967296
  lo : -1 ≤ d.left
  hi : d.left ≤ 9223372036854775807

theorem dn_n (b : Int) (bs : List (List UInt8)) (k : Nat) (d : Dsk) : (dn b bs k d).2.n = d.n ∧ (dn b bs k d).2.tr.length ≤ d.tr.length + k ∧ (dn b bs k d).1 ≤ 22 ∧ ((-1 ≤ d.left ∧ d.left ≤ 9223372036854775807) → -1 ≤ (dn b bs k d).2.left ∧ (dn b bs k d).2.left ≤ 9223372036854775807) := by
  induction k generalizing d with
  | zero => exact ⟨rfl, Nat.le_refl _, Nat.zero_le _, fun h => h⟩
  | succ k ih =>
    rw [dn]
    split
    · obtain ⟨h1, h2, h3, h4⟩ := ih (wrD d (b + (k : Int)) (bs.getD k []))
      have h5 := wrD_tr d (b + (k : Int)) (bs.getD k [])
      exact ⟨h1.trans (wrD_n _ _ _), by omega, h3, fun h => h4 (wrD_left _ _ _ h)⟩
    · exact ⟨rfl, Nat.le_add_right _ _, Nat.le_refl _, fun h => h⟩

theorem app_le (l : Lg) (d : Dsk) (p : List UInt8) : (app l d p).1 ≤ 24 := by
  unfold app
  repeat' split
  all_goals first | decide | omega

theorem blocks_len3 (ep : Nat) (p : List UInt8) (h : ¬ 512 < p.length) : 1 ≤ (blocks ep p).length ∧ (blocks ep p).length ≤ 3 := by
  rw [blocks_len]
  omega

/-- What stays so behind an Append. -/
theorem app_fit {l : Lg} {d : Dsk} (h : Fit l d) (p : List UInt8) : Fit (app l d p).2.2 (app l d p).2.1 ∧ (app l d p).2.1.tr.length ≤ d.tr.length + 3 ∧ (app l d p).2.2.recs ≤ l.recs + 1 ∧ (app l d p).2.2.at_ = l.at_ ∧ (app l d p).2.2.n = l.n ∧ (app l d p).2.2.ep = l.ep ∧ (app l d p).2.1.n = d.n := by
  by_cases h1 : l.dead = true
  · rw [app, if_pos h1]
    exact ⟨h, Nat.le_add_right _ _, Nat.le_add_right _ _, rfl, rfl, rfl, rfl⟩
  by_cases h2 : 512 < p.length
  · rw [app, if_neg h1, if_pos h2]
    exact ⟨h, Nat.le_add_right _ _, Nat.le_add_right _ _, rfl, rfl, rfl, rfl⟩
  by_cases h3 : l.n - (l.used : Int) < ((blocks l.ep p).length : Int)
  · rw [app, if_neg h1, if_neg h2, if_pos h3]
    exact ⟨h, Nat.le_add_right _ _, Nat.le_add_right _ _, rfl, rfl, rfl, rfl⟩
  obtain ⟨e1, e2, e3, e4⟩ := dn_n (l.at_ + (l.used : Int)) (blocks l.ep p) (blocks l.ep p).length d
  have e5 := e4 ⟨h.lo, h.hi⟩
  have hb := blocks_len3 l.ep p h2
  rw [app, if_neg h1, if_neg h2, if_neg h3]
  split
  · refine ⟨⟨h.a0, h.n1, ?_, ?_, ?_, h.ep, e5.1, e5.2⟩, by simp only; omega, Nat.le_refl _, rfl, rfl, rfl, e1⟩
    · simp only [e1]; exact h.an
    · simp only [e1]; exact h.dn
    · simp only; omega
  · refine ⟨⟨h.a0, h.n1, ?_, ?_, h.us, h.ep, e5.1, e5.2⟩, by simp only; omega, by simp only; omega, rfl, rfl, rfl, e1⟩
    · simp only [e1]; exact h.an
    · simp only [e1]; exact h.dn

/-- No text is longer than a block. -/
def Small (d : Dsk) : Prop := ∀ r ∈ d.tr, r.2.length ≤ 256

theorem Small.wr {d : Dsk} (h : Small d) (i : Int) (s : List UInt8) : Small (wrD d i s) := by
  unfold wrD
  split
  · rename_i hw
    intro r hr
    simp only [List.mem_append, List.mem_singleton] at hr
    rcases hr with hr | rfl
    · exact h r hr
    · unfold wrN at hw
      show s.length ≤ 256
      split at hw
      · split at hw
        · simp at hw
        · omega
      · simp at hw
  · exact h

theorem Small.dn (b : Int) (bs : List (List UInt8)) (k : Nat) : ∀ {d : Dsk}, Small d → Small (dn b bs k d).2 := by
  induction k with
  | zero => exact fun h => h
  | succ k ih =>
    intro d h
    rw [Lo.dn]
    split
    · exact ih (h.wr _ _)
    · exact h

theorem Small.app {d : Dsk} (h : Small d) (l : Lg) (p : List UInt8) : Small (app l d p).2.1 := by
  unfold Lo.app
  repeat' split
  · exact h
  · exact h
  · exact h
  · exact h.dn _ _ _
  · exact h.dn _ _ _

theorem Small.left {d : Dsk} (h : Small d) (m : Int) : Small ⟨d.n, m, d.tr⟩ := h

theorem small_last (i : Int) (l : List Raw) (h : ∀ r ∈ l, r.2.length ≤ 256) (k : Nat) : (lastK i l k).length ≤ 256 := by
  induction k with
  | zero => exact Nat.zero_le _
  | succ k ih =>
    rw [lastK]
    cases hk : l[k]? with
    | none => exact ih
    | some r =>
      simp only
      split
      · exact h r (List.mem_of_getElem? hk)
      · exact ih

theorem Small.read {d : Dsk} (h : Small d) (i : Int) : (rdT d i).length ≤ 256 := by
  unfold rdT
  split
  · exact small_last i d.tr h _
  · exact Nat.zero_le _

/-- The texts of a log's blocks. -/
def texts (d : Dsk) (a : Int) (n : Nat) : List (List UInt8) := (List.range n).map fun j : Nat => rdT d (a + (j : Int))

theorem texts_len (d : Dsk) (a : Int) (n : Nat) : (texts d a n).length = n := by simp [texts]

theorem texts_at (d : Dsk) (a : Int) (n k : Nat) (h : k < n) : (texts d a n)[k]? = some (rdT d (a + (k : Int))) := by
  rw [texts, List.getElem?_map, List.getElem?_range h]
  rfl

theorem texts_small {d : Dsk} (h : Small d) (a : Int) (n : Nat) : ∀ t ∈ texts d a n, t.length ≤ 256 := fun t ht => by
  obtain ⟨j, _, rfl⟩ := List.mem_map.1 ht
  exact h.read _

theorem texts_succ (d : Dsk) (a : Int) (n : Nat) : texts d a (n + 1) = texts d a n ++ [rdT d (a + (n : Int))] := by
  simp [texts, List.range_succ]

end Lo
end Go.Proofs.YthdibodmnpcekaaGreatDoor
/- The program's log: how it lies; New, Room, Records; the blocks of a record, written the last one first. -/
namespace Go.Proofs.YthdibodmnpcekaaGreatDoor
set_option linter.ambiguousOpen false
open Go.RowKit
namespace Lo
open Sm Ft Dk
set_option linter.unusedSimpArgs false
set_option linter.unusedVariables false

/-- It lies in the block q, on the disk at p. -/
@[reducible] def Pl (w : World) (q p : Nat) (l : Lg) : Prop := w.heap[q]? = some (.cells (lgV p l) 62)

theorem Pl.cells {w : World} {q p : Nat} {l : Lg} (h : Pl w q p l) : w.cell? ⟨q, 0, none⟩ = some (ptr p) ∧ w.cell? ⟨q, 1, none⟩ = some (nu l.at_) ∧ w.cell? ⟨q, 2, none⟩ = some (nu l.n) ∧ w.cell? ⟨q, 3, none⟩ = some (.int .u32 (l.ep : Int)) ∧ w.cell? ⟨q, 4, none⟩ = some (nu (l.used : Int)) ∧ w.cell? ⟨q, 5, none⟩ = some (nu (l.recs : Int)) ∧ w.cell? ⟨q, 6, none⟩ = some (.bool l.dead) ∧ ∀ i, w.frozen? ⟨q, i, none⟩ = false := by
  unfold Pl lgV at h
  simp [World.cell?, World.frozen?, h]

theorem Pl.lt {w : World} {q p : Nat} {l : Lg} (h : Pl w q p l) : q < w.heap.size := (Array.getElem?_eq_some_iff.1 h).1

set_option maxRecDepth 100000 in
theorem Is_nil (b : Int) (w : World) : Calls Tryz.prog 41 #[.nilIface, noE b] w fun e w' => e = .returned (.bool false) ∧ w' = w := by
  have he : ∀ wx : World, (binOp .eql 30 .nilIface (noE b)).run Tryz.prog wx = .ok (.bool false) wx := fun wx => by
    have h : ∀ d : Nat, (Op.equalIn (d + 1) 30 .nilIface (noE b)).run Tryz.prog wx = .ok false wx := fun d => by simp [Op.equalIn, run_underlying Tryz.underlying30]
    simp only [binOp]
    simp [Op.equal, Op.maxDepth, h 9999]
  go_enter Tryz.func41, Tryz.ntmps41
  go_wp2
  go_ret
  exact ⟨rfl, rfl⟩

theorem has_any {Rep : World → Nat → (Nat → Prop) → Dsk → Prop} (H : Says Rep) (w : World) (p : Nat) (F : Nat → Prop) (d : Dsk) (a n : Int) (hR : Rep w p F d) (hd : 1 ≤ d.n ∧ d.n ≤ 4096) (ha : a ≤ 9223372036854775807) :
    Calls Tryz.prog 15 #[ptr p, nu a, nu n] w fun e w' => e = .returned (.bool (may d a n)) ∧ Below w.heap.size w w' := by
  have c1 := Hid.mk' (H.blocks w p F d hR)
  obtain ⟨r, hr⟩ : ∃ r, may d a n = r := ⟨_, rfl⟩
  rw [hr]
  unfold may at hr
  by_cases h1 : 0 ≤ a
  · by_cases h2 : 1 ≤ n
    · have hm : r = decide (n ≤ d.n - a) := by
        rw [← hr]
        exact decide_eq_decide.2 (by omega)
      clear hr H hR
      subst hm
      go_enter Tryz.func15, Tryz.ntmps15
      go_wp2_with fail
      refine c1.out.mono ?_
      rintro e w1 ⟨rfl, hb⟩
      have HB := Hid.mk' hb
      clear hb c1
      go_wp2
      go_ret
      exact ⟨rfl, HB.out⟩
    · have hm : r = false := by rw [← hr]; exact decide_eq_false (by omega)
      clear hr H hR c1
      subst hm
      go_enter Tryz.func15, Tryz.ntmps15
      go_wp2
      go_ret
      exact ⟨rfl, Below.refl _ _⟩
  · have hm : r = false := by rw [← hr]; exact decide_eq_false (by omega)
    clear hr H hR c1
    subst hm
    go_enter Tryz.func15, Tryz.ntmps15
    go_wp2
    go_ret
    exact ⟨rfl, Below.refl _ _⟩

theorem new_no {Rep : World → Nat → (Nat → Prop) → Dsk → Prop} (H : Says Rep) (w : World) (p : Nat) (F : Nat → Prop) (d : Dsk) (a n : Int) (ep : Nat) (hR : Rep w p F d) (hd : 1 ≤ d.n ∧ d.n ≤ 4096) (ha : a ≤ 9223372036854775807) (hm : may d a n = false) :
    Calls Tryz.prog 8 #[ptr p, nu a, nu n, .int .u32 (ep : Int)] w fun e w' => e = .returned (.tuple #[.pointer none, noE 1]) ∧ Below w.heap.size w w' := by
  have c1 := has_any H w p F d a n hR hd ha
  rw [hm] at c1
  clear H hR hm
  go_enter Tryz.func8, Tryz.ntmps8
  go_wp2_with fail
  refine c1.mono ?_
  rintro e w1 ⟨rfl, hb⟩
  have HB := Hid.mk' hb
  clear hb c1
  go_wp2
  go_ret2
  exact ⟨rfl, HB.out⟩

theorem new_yes {Rep : World → Nat → (Nat → Prop) → Dsk → Prop} (H : Says Rep) (w : World) (p : Nat) (F : Nat → Prop) (d : Dsk) (a n : Int) (ep : Nat) (hR : Rep w p F d) (hd : 1 ≤ d.n ∧ d.n ≤ 4096) (ha : a ≤ 9223372036854775807) (hm : may d a n = true) :
    Calls Tryz.prog 8 #[ptr p, nu a, nu n, .int .u32 (ep : Int)] w fun e w' => ∃ q, e = .returned (.tuple #[ptr q, .nilIface]) ∧ Pl w' q p ⟨a, n, ep, 0, 0, false⟩ ∧ w.heap.size ≤ q ∧ Below w.heap.size w w' := by
  have c1 := has_any H w p F d a n hR hd ha
  rw [hm] at c1
  clear H hR hm
  go_enter Tryz.func8, Tryz.ntmps8
  go_wp2_with fail
  refine c1.mono ?_
  rintro e w1 ⟨rfl, hb⟩
  have HP : Hid (Pl (w1.alloc (.cells (lgV p ⟨a, n, ep, 0, 0, false⟩) 62)) w1.heap.size p ⟨a, n, ep, 0, 0, false⟩) := heap_alloc_new _ _
  have HB := Hid.mk' (hb.alloc hb.size (.cells (lgV p ⟨a, n, ep, 0, 0, false⟩) 62))
  have HS := Hid.mk' hb.size
  clear hb c1
  go_wp2
  go_ret2
  exact ⟨_, rfl, HP.out, HS.out, HB.out⟩

theorem room_any (w : World) (q p : Nat) (l : Lg) (h : Pl w q p l) (h1 : 1 ≤ l.n ∧ l.n ≤ 4096) (h2 : (l.used : Int) ≤ l.n) :
    Calls Tryz.prog 26 #[ptr q] w fun e w' => e = .returned (nu (l.n - (l.used : Int))) ∧ ∃ k, w' = w.drewN k := by
  obtain ⟨_, _, q2, _, q4, _, _, _⟩ := h.cells
  clear h
  go_enter Tryz.func26, Tryz.ntmps26
  go_wp2_with fail
  go_quiet (fail)
  go_wp2
  go_ret
  exact ⟨rfl, _, rfl⟩

theorem records_any (w : World) (q p : Nat) (l : Lg) (h : Pl w q p l) :
    Calls Tryz.prog 28 #[ptr q] w fun e w' => e = .returned (nu (l.recs : Int)) ∧ w' = w := by
  obtain ⟨_, _, _, _, _, q5, _, _⟩ := h.cells
  clear h
  go_enter Tryz.func28, Tryz.ntmps28
  go_wp2
  go_ret
  exact ⟨rfl, rfl⟩

end Lo
end Go.Proofs.YthdibodmnpcekaaGreatDoor
/- The program's log: a record's blocks are written, the last one first; Append. -/
namespace Go.Proofs.YthdibodmnpcekaaGreatDoor
set_option linter.ambiguousOpen false
open Go.RowKit
namespace Lo
open Sm Ft Dk
set_option linter.unusedSimpArgs false
set_option linter.unusedVariables false

theorem goes_trans {w a : World} {F G K : Nat → Prop} (h : Goes w F G) (k : Goes a G K) (hs : w.heap.size ≤ a.heap.size) : Goes w F K := fun i hi => by
  rcases k i hi with h1 | h1
  · exact h i h1
  · exact .inr (Nat.le_trans hs h1)

theorem keep_goes {w a b : World} {F G : Nat → Prop} (h : Keep F w a) (hg : Goes w F G) (k : Keep G a b) : Keep F w b :=
  h.trans k (fun i hi hG => by
    rcases hg i hG with h1 | h1
    · exact h1
    · omega)

/-- At a round of the blocks' loop. -/
structure Wr (Rep : World → Nat → (Nat → Prop) → Dsk → Prop) (w wr : World) (p q B : Nat) (F G : Nat → Prop) (d : Dsk) (l : Lg) (rv : Value) (bs : List (List UInt8)) : Prop where
  rep : Rep wr p G d
  keep : Keep F w wr
  goes : Goes w F G
  blk : Pl wr q p l
  row : wr.ownsRow B 9 1 rv bs.length (bs.map Nm.txt)
  offq : ¬ F q
  ql : q < w.heap.size
  fb : ∀ k, F k → k < B
  rl : ∀ k, rv.ownBlock = some k → k < w.heap.size

theorem Wr.step {Rep : World → Nat → (Nat → Prop) → Dsk → Prop} {w wr w' : World} {p q B : Nat} {F G G' : Nat → Prop} {d d' : Dsk} {l : Lg} {rv : Value} {bs : List (List UInt8)} (h : Wr Rep w wr p q B F G d l rv bs) (hr : Rep w' p G' d') (hk : Keep G wr w') (hg : Goes wr G G') : Wr Rep w w' p q B F G' d' l rv bs := by
  have hq : ¬ G q := fun e => by
    rcases h.goes q e with h1 | h1
    · exact h.offq h1
    · have := h.ql; omega
  refine ⟨hr, keep_goes h.keep h.goes hk, goes_trans h.goes hg h.keep.size, hk.at h.blk hq, hk.own h.row (fun k hkk e => ?_), h.offq, h.ql, h.fb, h.rl⟩
  rcases h.goes k e with h1 | h1
  · have := h.fb k h1
    have := (h.row.lt k hkk).1
    omega
  · have := h.rl k hkk
    omega

/-- The power has failed. -/
theorem Wr.fin {Rep : World → Nat → (Nat → Prop) → Dsk → Prop} {w wr : World} {p q B : Nat} {F G : Nat → Prop} {d : Dsk} {l : Lg} {rv : Value} {bs : List (List UInt8)} (h : Wr Rep w wr p q B F G d l rv bs) (H : Says Rep) :
    Rep (wr.setCell ⟨q, 6, none⟩ (.bool true)) p G d ∧ Pl (wr.setCell ⟨q, 6, none⟩ (.bool true)) q p { l with dead := true } ∧ Keep (fun k => k = q ∨ F k) w (wr.setCell ⟨q, 6, none⟩ (.bool true)) ∧ Goes w F G := by
  have hq : ¬ G q := fun e => by
    rcases h.goes q e with h1 | h1
    · exact h.offq h1
    · have := h.ql; omega
  have hK : Keep (fun k => k = q) wr (wr.setCell ⟨q, 6, none⟩ (.bool true)) := (Keep.refl (fun k => k = q) wr).setCell (p := ⟨q, 6, none⟩) (.inl rfl) _
  refine ⟨H.keep h.rep hK (fun k hk e => hq (e ▸ hk)), heap_setCell_same _ q 6 _ _ _ h.blk, ?_, h.goes⟩
  exact (h.keep.weaken (fun _ _ e => .inr e)).setCell (p := ⟨q, 6, none⟩) (.inl (.inl rfl)) _

theorem Wr.text {Rep : World → Nat → (Nat → Prop) → Dsk → Prop} {w wr : World} {p q B : Nat} {F G : Nat → Prop} {d : Dsk} {l : Lg} {a : Option Addr} {cap : Nat} {bs : List (List UInt8)} (h : Wr Rep w wr p q B F G d l (.slice a bs.length cap) bs) (k : Nat) (hk : k < bs.length) : ∃ g, a = some ⟨g, 0, none⟩ ∧ wr.cell? ⟨g, k, none⟩ = some (.string (tx (bs.getD k []))) ∧ g < wr.heap.size := by
  obtain ⟨g, cap', e, _, _, _, hg⟩ := own_posB h.row (by omega)
  simp only [Value.slice.injEq, true_and] at e
  obtain ⟨rfl, rfl⟩ := e
  refine ⟨g, rfl, ?_, hg⟩
  rw [row_atB h.row k hk (by rw [List.length_map]; exact hk)]
  rw [List.getElem_map, List.getD_eq_getElem?_getD, List.getElem?_eq_getElem hk]
  rfl

theorem wr_code {d : Dsk} {i : Int} {t : List UInt8} (hi : 0 ≤ i ∧ i < d.n) (ht : t.length ≤ 256) : wrN d i t = 0 ∨ wrN d i t = 22 := by
  unfold wrN
  rw [if_pos hi, if_neg (by omega)]
  split
  · exact .inr rfl
  · exact .inl rfl

set_option maxRecDepth 100000 in
set_option maxHeartbeats 4000000 in
theorem write_any {Rep : World → Nat → (Nat → Prop) → Dsk → Prop} (H : Says Rep) (w : World) (p q B : Nat) (F : Nat → Prop) (d : Dsk) (l : Lg) (rv : Value) (bs : List (List UInt8)) (hW : Wr Rep w w p q B F F d l rv bs)
    (h0 : 0 ≤ l.at_) (h1 : l.at_ + (l.used : Int) + (bs.length : Int) ≤ d.n) (h2 : d.n ≤ 4096) (hs : ∀ t ∈ bs, t.length ≤ 256) (h3 : bs.length ≤ 3) (ht : d.tr.length + 3 ≤ 1000000) :
    Calls Tryz.prog 49 #[ptr q, rv] w fun e w' => e = .returned (errE (dn (l.at_ + (l.used : Int)) bs bs.length d).1) ∧ ∃ G, Rep w' p G (dn (l.at_ + (l.used : Int)) bs bs.length d).2 ∧ Pl w' q p { l with dead := l.dead || decide ((dn (l.at_ + (l.used : Int)) bs bs.length d).1 ≠ 0) } ∧ Keep (fun k => k = q ∨ F k) w w' ∧ Goes w F G := by
  obtain ⟨m, hm⟩ : ∃ m, bs.length = m := ⟨_, rfl⟩
  obtain ⟨R, hR⟩ : ∃ R, dn (l.at_ + (l.used : Int)) bs m d = R := ⟨_, rfl⟩
  obtain ⟨a, cap, rfl, hc1, hc2, _⟩ := Nm.own_shape hW.row
  have HH := Hid.mk' H
  have HW := Hid.mk' hW
  have HR := Hid.mk' hR
  have HM := Hid.mk' hm
  have HS := Hid.mk' hs
  rw [hm] at h1 h3 hc1 ⊢
  rw [hR]
  unfold maxLen at hc2
  clear hW H hR hm hs
  go_enter Tryz.func49, Tryz.ntmps49
  go_wp2
  go_loopw [5, 6] (fun iv _ wr => ∃ (k : Nat), k ≤ m ∧ iv = nu ((k : Int) - 1) ∧ Hid (∃ G d', Wr Rep w wr p q B F G d' l (.slice a m cap) bs ∧ dn (l.at_ + (l.used : Int)) bs k d' = R ∧ d'.n = d.n ∧ d'.tr.length + k ≤ d.tr.length + m)) (fun iv _ _ => (intOf iv + 1).toNat)
  case atStart => exact ⟨m, Nat.le_refl _, rfl, F, d, by rw [← HM.out]; exact HW.out, HR.out, rfl, Nat.le_refl _⟩
  case round =>
    obtain ⟨k, hk, rfl, hrr⟩ := hrel
    obtain ⟨G, d', hw, hdn, hdd, htt⟩ := hrr.out
    cases k with
    | zero =>
      rw [show (((0 : Nat) : Int) - 1) = -1 from rfl]
      have hE : Hid (R = (0, d')) := hdn.symm
      have HWr := Hid.mk' hw
      clear hrr hw hdn
      go_wp2
      go_ret
      rw [hE.out]
      refine ⟨rfl, G, HWr.out.rep, ?_, HWr.out.keep.weaken (fun _ _ h => .inr h), HWr.out.goes⟩
      have := HWr.out.blk
      simpa using this
    | succ k =>
      rw [show (((k + 1 : Nat) : Int) - 1) = (k : Int) from by omega]
      have hkb : k < bs.length := by have := HM.out; omega
      obtain ⟨t, hte⟩ : ∃ t, bs.getD k [] = t := ⟨_, rfl⟩
      have htm : t.length ≤ 256 := by
        rw [← hte, List.getD_eq_getElem?_getD, List.getElem?_eq_getElem hkb]
        exact HS.out _ (List.getElem_mem hkb)
      have hw' := hw
      rw [← HM.out] at hw'
      obtain ⟨g, rfl, hcell, hgl⟩ := hw'.text k hkb
      rw [hte] at hcell
      obtain ⟨q0, q1, q2, q3, q4, q5, q6, qf⟩ := hw.blk.cells
      have hcode := wr_code (d := d') (i := l.at_ + (l.used : Int) + (k : Int)) (t := t) (by omega) htm
      have hstep : dn (l.at_ + (l.used : Int)) bs (k + 1) d' = if wrN d' (l.at_ + (l.used : Int) + (k : Int)) t = 0 then dn (l.at_ + (l.used : Int)) bs k (wrD d' (l.at_ + (l.used : Int) + (k : Int)) t) else (22, d') := by rw [dn, hte]
      have C : Hid (∀ wx, Below wr.heap.size wr wx → Calls Tryz.prog 70 #[ptr p, nu (l.at_ + (l.used : Int) + (k : Int)), .string (tx t)] wx fun e w' => e = .returned (errE (wrN d' (l.at_ + (l.used : Int) + (k : Int)) t)) ∧ (w'.cell? ⟨q, 0, none⟩ = some (ptr p) ∧ w'.cell? ⟨q, 1, none⟩ = some (nu l.at_) ∧ w'.cell? ⟨q, 4, none⟩ = some (nu (l.used : Int)) ∧ w'.cell? ⟨g, k, none⟩ = some (.string (tx t))) ∧ Hid (∃ G', Wr Rep w w' p q B F G' (wrD d' (l.at_ + (l.used : Int) + (k : Int)) t) l (.slice (some ⟨g, 0, none⟩) m cap) bs)) := fun wx hx => by
        have hK0 : Keep (fun _ => False) wr wx := Keep.of_below hx
        have hwx := hw.step (HH.out.keep hw.rep hK0 (fun _ _ h => h)) (Keep.of_below hx) (Goes.refl _ _)
        refine (HH.out.write wx p G d' _ t hwx.rep (by omega) (by omega) (by unfold maxLen; omega)).mono ?_
        rintro e w' ⟨rfl, G', r1, r2, r3⟩
        have hw2 := hwx.step r1 r2 r3
        obtain ⟨z0, z1, z2, z3, z4, z5, z6, zf⟩ := hw2.blk.cells
        have hw3 := hw2
        rw [← HM.out] at hw3
        obtain ⟨g', eg, hcell', _⟩ := hw3.text k hkb
        obtain rfl : g = g' := by simpa using eg
        rw [hte] at hcell'
        exact ⟨rfl, ⟨z0, z1, z4, hcell'⟩, G', hw2⟩
      have hz1 : 0 ≤ l.at_ + (l.used : Int) ∧ l.at_ + (l.used : Int) + (k : Int) ≤ 4096 := by omega
      have hz0 : l.at_ ≤ 4096 := by omega
      have hS0 : wr.cell? ⟨q, 0, none⟩ = some (ptr p) ∧ wr.cell? ⟨q, 1, none⟩ = some (nu l.at_) ∧ wr.cell? ⟨q, 4, none⟩ = some (nu (l.used : Int)) ∧ wr.cell? ⟨g, k, none⟩ = some (.string (tx t)) := ⟨q0, q1, q4, hcell⟩
      have hDN := Hid.mk' (hdn.symm.trans hstep)
      have hDD : Hid ((wrD d' (l.at_ + (l.used : Int) + (k : Int)) t).n = d.n ∧ (wrD d' (l.at_ + (l.used : Int) + (k : Int)) t).tr.length + k ≤ d.tr.length + m) := ⟨(wrD_n _ _ _).trans hdd, by have := wrD_tr d' (l.at_ + (l.used : Int) + (k : Int)) t; omega⟩
      have hD22 : Hid (wrN d' (l.at_ + (l.used : Int) + (k : Int)) t = 22 → wrD d' (l.at_ + (l.used : Int) + (k : Int)) t = d') := fun e => by unfold wrD; rw [e, if_neg (by decide)]
      have hkI : (k : Int) < (m : Int) := by omega
      have hwr : Hid (IntKind.i64.wrap (IntKind.i64.wrap (l.at_ + (l.used : Int)) + (k : Int)) = l.at_ + (l.used : Int) + (k : Int)) := by
        show _ = _
        rw [show IntKind.i64.wrap (l.at_ + (l.used : Int)) = l.at_ + (l.used : Int) by rw [IntKind.wrap_i64]; omega, IntKind.wrap_i64]
        omega
      clear hrr hw hdn hstep hdd htt hte hw' qf hkb HS HR HW q2 q3 q5 q6
      generalize hX : wrD d' (l.at_ + (l.used : Int) + (k : Int)) t = D at *
      generalize hY : wrN d' (l.at_ + (l.used : Int) + (k : Int)) t = N at *
      clear hX hY
      generalize tx t = f at *
      have cI : Hid (∀ wx, Calls Tryz.prog 41 #[.nilIface, noE 22] wx fun e w' => e = .returned (.bool false) ∧ w' = wx) := fun wx => Is_nil 22 wx
      have cJ : Hid (∀ wx, Calls Tryz.prog 41 #[noE 22, noE 22] wx fun e w' => e = .returned (.bool true) ∧ w' = wx) := fun wx => Er.Is_no 22 22 wx
      rcases hcode with rfl | rfl
      · rw [show errE 0 = .nilIface from rfl] at C
        rw [if_pos rfl] at hDN
        go_upto_region 4 with fail
        go_wp2_with fail
        go_region_held3 (fun w' => w'.cell? ⟨q, 0, none⟩ = some (ptr p) ∧ w'.cell? ⟨q, 1, none⟩ = some (nu l.at_) ∧ w'.cell? ⟨q, 4, none⟩ = some (nu (l.used : Int)) ∧ w'.cell? ⟨g, k, none⟩ = some (.string f)) (first | assumption | exact hS0 | go_keep) (first | (go_at_call 70; rw [hwr.out]; with_reducible refine (C.out _ ?hb).mono ?_; (case hb => (first | exact Below.refl _ _ | exact (Below.refl _ _).drew | fail)); rintro e w5 ⟨rfl, hS5, hW5⟩) | fail)
        clear hS0 hS5 C hcell q0 q1 q4
        go_wp2_with fail
        refine (cI.out _).mono ?_
        rintro e w6 ⟨rfl, rfl⟩
        go_wp2
        go_roundw
        case rel => exact ⟨k, by omega, rfl, by obtain ⟨G', hW'⟩ := hW5.out; exact ⟨G', D, hW', hDN.out.symm, hDD.out.1, hDD.out.2⟩⟩
        case measure => simp [intOf]
      · rw [show errE 22 = noE 22 from rfl] at C
        rw [if_neg (by decide)] at hDN
        go_upto_region 4 with fail
        go_wp2_with fail
        go_region_held3 (fun w' => w'.cell? ⟨q, 0, none⟩ = some (ptr p) ∧ w'.cell? ⟨q, 1, none⟩ = some (nu l.at_) ∧ w'.cell? ⟨q, 4, none⟩ = some (nu (l.used : Int)) ∧ w'.cell? ⟨g, k, none⟩ = some (.string f)) (first | assumption | exact hS0 | go_keep) (first | (go_at_call 70; rw [hwr.out]; with_reducible refine (C.out _ ?hb).mono ?_; (case hb => (first | exact Below.refl _ _ | exact (Below.refl _ _).drew | fail)); rintro e w5 ⟨rfl, hS5, hW5⟩) | fail)
        obtain ⟨G', hW'⟩ := hW5.out
        obtain ⟨z0, z1, z2, z3, z4, z5, z6, zf⟩ := hW'.blk.cells
        have HF := Hid.mk' hW'.fin
        clear hS0 hS5 C hcell q0 q1 q4 hW' hW5
        go_wp2_with fail
        refine (cJ.out _).mono ?_
        rintro e w6 ⟨rfl, rfl⟩
        go_wp2
        go_ret
        rw [hDN.out]
        obtain ⟨f1, f2, f3, f4⟩ := HF.out (HH.out)
        refine ⟨rfl, G', ?_, ?_, f3, f4⟩
        · rw [← hD22.out (by trivial)]
          exact f1
        · simpa using f2
end Lo
end Go.Proofs.YthdibodmnpcekaaGreatDoor
/- The program's Append. -/
namespace Go.Proofs.YthdibodmnpcekaaGreatDoor
set_option linter.ambiguousOpen false
open Go.RowKit
namespace Lo
open Sm Ft Dk
set_option linter.unusedSimpArgs false
set_option linter.unusedVariables false

theorem dnB {b : Nat} {w w' : World} (h : Below b w w') (n : Nat) : Below b w (w'.drewN n) := ⟨h.os, h.tape, h.output, h.size, h.block⟩

theorem ownB {w w' : World} {base : Nat} {e : TypeId} {size : Nat} {v : Value} {n : Nat} {xs : List Value} (h : w.ownsRow base e size v n xs) (hb : Below w.heap.size w w') : w'.ownsRow base e size v n xs := (Keep.of_below (F := fun _ => False) hb).own h (fun _ _ h => h)

/-- What Frame answers, of rows of any length. -/
def FrameW : Prop := ∀ (w : World) (ep : Nat) (v : Value) (p : List UInt8), ep < 4294967296 → RdB w v p → Pk.Nz v → Calls Tryz.prog 48 #[.int .u32 (ep : Int), v] w fun e w' => ∃ r, e = .returned (.tuple #[r, errE (if 512 < p.length then 3 else 0)]) ∧ w'.ownsRow w.heap.size 9 1 r (Rc.framed ep p).length ((Rc.framed ep p).map Nm.txt) ∧ Below w.heap.size w w'

theorem errE_rc (n : Nat) : Rc.errE n = errE n := by cases n <;> rfl

set_option maxRecDepth 100000 in
theorem frame_w : FrameW := by
  intro w ep v p hep hR hz
  by_cases h : 512 < p.length
  · rw [Rc.framed, if_pos h, if_pos h]
    obtain ⟨a, cap, rfl, hc1, hc2, _⟩ := hR
    unfold maxLen at hc2
    have hI : (512 : Int) < (p.length : Int) := by omega
    go_enter Tryz.func48, Tryz.ntmps48
    go_wp2
    go_ret2
    exact ⟨_, rfl, World.ownsRow_nil _ _ _ _, Below.refl _ _⟩
  · refine (Rc.Pr.frame_p w ep v p hep hR hz (by omega)).mono ?_
    rintro e w' ⟨r, rfl, h1, h2⟩
    exact ⟨r, by rw [errE_rc], h1, h2⟩

theorem wr_start {Rep : World → Nat → (Nat → Prop) → Dsk → Prop} (H : Says Rep) {w w2 : World} {p q : Nat} {F : Nat → Prop} {d : Dsk} {l : Lg} {rv : Value} {bs : List (List UInt8)} (hR : Rep w p F d) (hq : Pl w q p l) (hqF : ¬ F q) (hb : Below w.heap.size w w2) (ho : w2.ownsRow w.heap.size 9 1 rv bs.length (bs.map Nm.txt)) : Wr Rep w2 w2 p q w.heap.size F F d l rv bs :=
  ⟨H.keep hR (Keep.of_below (F := fun _ => False) hb) (fun _ _ h => h), Keep.refl _ _, Goes.refl _ _, (hb.block q hq.lt).trans hq, ho, hqF, Nat.lt_of_lt_of_le hq.lt hb.size, fun k hk => H.lt hR k hk, fun k hk => (ho.lt k hk).2⟩

theorem dn_code (b : Int) (bs : List (List UInt8)) (k : Nat) : ∀ d, (dn b bs k d).1 = 0 ∨ (dn b bs k d).1 = 22 := by
  induction k with
  | zero => exact fun d => .inl rfl
  | succ k ih =>
    intro d
    rw [dn]
    split
    · exact ih _
    · exact .inr rfl

/-- The record is the log's last one. -/
theorem Pl.more {w : World} {q p : Nat} {l : Lg} (h : Pl w q p l) (m : Nat) : Pl (w.setCell ⟨q, 4, none⟩ (nu ((l.used : Int) + (m : Int)))) q p { l with used := l.used + m } ∧ Pl ((w.setCell ⟨q, 4, none⟩ (nu ((l.used : Int) + (m : Int)))).setCell ⟨q, 5, none⟩ (nu ((l.recs : Int) + 1))) q p { l with used := l.used + m, recs := l.recs + 1 } := by
  have h1 : Pl (w.setCell ⟨q, 4, none⟩ (nu ((l.used : Int) + (m : Int)))) q p { l with used := l.used + m } := heap_setCell_same _ q 4 _ _ _ h
  exact ⟨h1, heap_setCell_same _ q 5 _ _ _ h1⟩

/-- What Append leaves. -/
def Left (Rep : World → Nat → (Nat → Prop) → Dsk → Prop) (w w' : World) (p q : Nat) (F : Nat → Prop) (d : Dsk) (l : Lg) : Prop := ∃ G, Rep w' p G d ∧ Pl w' q p l ∧ Keep (fun k => k = q ∨ F k) w w' ∧ Goes w F G

theorem left_same {Rep : World → Nat → (Nat → Prop) → Dsk → Prop} (H : Says Rep) {w w' : World} {p q : Nat} {F : Nat → Prop} {d : Dsk} {l : Lg} (hR : Rep w p F d) (hq : Pl w q p l) (hb : Below w.heap.size w w') : Left Rep w w' p q F d l :=
  ⟨F, H.keep hR (Keep.of_below (F := fun _ => False) hb) (fun _ _ h => h), (hb.block q hq.lt).trans hq, Keep.of_below hb, Goes.refl _ _⟩

theorem left_below {Rep : World → Nat → (Nat → Prop) → Dsk → Prop} {w a b : World} {p q : Nat} {F : Nat → Prop} {d : Dsk} {l : Lg} (hb : Below w.heap.size w a) (h : Left Rep a b p q F d l) : Left Rep w b p q F d l := by
  obtain ⟨G, h1, h2, h3, h4⟩ := h
  exact ⟨G, h1, h2, (Keep.of_below hb).trans h3 (fun _ _ h => h), fun k hk => by
    rcases h4 k hk with h5 | h5
    · exact .inl h5
    · exact .inr (Nat.le_trans hb.size h5)⟩

theorem left_more {Rep : World → Nat → (Nat → Prop) → Dsk → Prop} (H : Says Rep) {w w' : World} {p q : Nat} {F : Nat → Prop} {d : Dsk} {l : Lg} (hqF : ¬ F q) (hql : q < w.heap.size) (h : Left Rep w w' p q F d l) (m : Nat) : Left Rep w ((w'.setCell ⟨q, 4, none⟩ (nu ((l.used : Int) + (m : Int)))).setCell ⟨q, 5, none⟩ (nu ((l.recs : Int) + 1))) p q F d { l with used := l.used + m, recs := l.recs + 1 } := by
  obtain ⟨G, h1, h2, h3, h4⟩ := h
  have hq : ¬ G q := fun e => by
    rcases h4 q e with h5 | h5
    · exact hqF h5
    · omega
  have hK : Keep (fun k => k = q) w' ((w'.setCell ⟨q, 4, none⟩ (nu ((l.used : Int) + (m : Int)))).setCell ⟨q, 5, none⟩ (nu ((l.recs : Int) + 1))) := ((Keep.refl (fun k => k = q) w').setCell (p := ⟨q, 4, none⟩) (.inl rfl) _).setCell (p := ⟨q, 5, none⟩) (.inl rfl) _
  exact ⟨G, H.keep h1 hK (fun k hk e => hq (e ▸ hk)), (h2.more m).2, h3.trans hK (fun _ _ e => .inl e), h4⟩

set_option maxRecDepth 100000 in
set_option maxHeartbeats 4000000 in
theorem append_any {Rep : World → Nat → (Nat → Prop) → Dsk → Prop} (H : Says Rep) (SF : FrameW) (w : World) (p q : Nat) (F : Nat → Prop) (d : Dsk) (l : Lg) (v : Value) (x : List UInt8) (hR : Rep w p F d) (hq : Pl w q p l) (hqF : ¬ F q) (hf : Fit l d) (ht : d.tr.length + 3 ≤ 1000000) (hr : l.recs ≤ 1000000) (hv : RdB w v x) (hz : Pk.Nz v) :
    Calls Tryz.prog 23 #[ptr q, v] w fun e w' => e = .returned (errE (app l d x).1) ∧ Left Rep w w' p q F (app l d x).2.1 (app l d x).2.2 := by
  obtain ⟨q0, q1, q2, q3, q4, q5, q6, qf⟩ := hq.cells
  have HH := Hid.mk' H
  have HQ := Hid.mk' hq
  have HR := Hid.mk' hR
  have HF := Hid.mk' hf
  have c1 := Hid.mk' (SF w l.ep v x hf.ep hv hz)
  obtain ⟨av, cv, rfl, _⟩ := id hv
  by_cases h1 : l.dead = true
  · have hA : Hid (app l d x = (22, d, l)) := by
      show _ = _
      rw [app, if_pos h1]
    rw [h1] at q6
    clear hf hv hz H hq hR
    go_enter Tryz.func23, Tryz.ntmps23
    go_wp2
    go_ret
    rw [hA.out]
    exact ⟨rfl, left_same HH.out HR.out HQ.out (Below.refl _ _)⟩
  have h1' : l.dead = false := by simpa using h1
  rw [h1'] at q6
  by_cases h2 : 512 < x.length
  · have hA : Hid (app l d x = (3, d, l)) := by
      show _ = _
      rw [app, if_neg h1, if_pos h2]
    rw [if_pos h2, show errE 3 = noE 3 from rfl] at c1
    clear hf hv hz H hq hR
    go_enter Tryz.func23, Tryz.ntmps23
    go_wp2_with fail
    refine c1.out.mono ?_
    rintro e w1 ⟨r, rfl, ho, hb⟩
    have HB := Hid.mk' hb
    clear ho hb c1
    go_wp2
    go_ret
    rw [hA.out]
    exact ⟨rfl, left_same HH.out HR.out HQ.out HB.out⟩
  obtain ⟨bs, hbs⟩ : ∃ bs, Rc.blocks l.ep x = bs := ⟨_, rfl⟩
  obtain ⟨m, hm⟩ : ∃ m, bs.length = m := ⟨_, rfl⟩
  have hm3 := blocks_len3 l.ep x h2
  rw [hbs, hm] at hm3
  have hshort : Hid (∀ t ∈ bs, t.length ≤ 256) := fun t ht => by
    rw [← hbs] at ht
    exact Rc.blocks_short _ _ _ ht
  have HM := Hid.mk' hm
  rw [if_neg h2, show errE 0 = .nilIface from rfl, Rc.framed, if_neg h2, hbs] at c1
  have g1 := hf.n1
  have g2 := hf.us
  have g3 := hf.an
  have g4 := hf.dn
  have g5 := hf.a0
  have cR : Hid (∀ wx, Below w.heap.size w wx → Calls Tryz.prog 26 #[ptr q] wx fun e w' => e = .returned (nu (l.n - (l.used : Int))) ∧ ∃ k, w' = wx.drewN k) := fun wx hb => room_any wx q p l ((hb.block q HQ.out.lt).trans HQ.out) (by omega) g2
  by_cases h3 : l.n - (l.used : Int) < (m : Int)
  · have hA : Hid (app l d x = (19, d, l)) := by
      show _ = _
      rw [app, if_neg h1, if_neg h2, hbs, hm, if_pos h3]
    clear hf hv hz H hq hR hbs hm
    go_enter Tryz.func23, Tryz.ntmps23
    go_wp2_with fail
    refine c1.out.mono ?_
    rintro e w1 ⟨r, rfl, ho, hb⟩
    obtain ⟨ar, cr, rfl, _⟩ := Nm.own_shape ho
    rw [HM.out] at ho ⊢
    have C2 := Hid.mk' (cR.out w1 hb)
    have HB := Hid.mk' hb
    clear ho hb c1 cR
    go_wp2_with fail
    refine C2.out.mono ?_
    rintro e w2 ⟨rfl, k, rfl⟩
    clear C2
    go_wp2
    go_ret
    rw [hA.out]
    exact ⟨rfl, left_same HH.out HR.out HQ.out (dnB HB.out k)⟩
  obtain ⟨R, hRR⟩ : ∃ R, dn (l.at_ + (l.used : Int)) bs m d = R := ⟨_, rfl⟩
  have hcd := dn_code (l.at_ + (l.used : Int)) bs m d
  rw [hRR] at hcd
  have cW : Hid (∀ wx rv, Below w.heap.size w wx → wx.ownsRow w.heap.size 9 1 rv m (bs.map Nm.txt) → Calls Tryz.prog 49 #[ptr q, rv] wx fun e w' => e = .returned (errE R.1) ∧ Left Rep wx w' p q F R.2 { l with dead := l.dead || decide (R.1 ≠ 0) }) := fun wx rv hb ho => by
    have := write_any HH.out wx p q w.heap.size F d l rv bs (wr_start HH.out HR.out HQ.out hqF hb (by rw [HM.out]; exact ho)) g5 (by rw [HM.out]; omega) g4 hshort.out (by rw [HM.out]; omega) ht
    rw [HM.out, hRR] at this
    exact this
  have HRR := Hid.mk' hRR
  have HA0 : Hid (app l d x = if R.1 = 0 then (0, R.2, { l with used := l.used + m, recs := l.recs + 1 }) else (22, R.2, { l with dead := true })) := by
    show _ = _
    rw [app, if_neg h1, if_neg h2, hbs, hm, if_neg h3, hRR]
  have hl0 : Hid ((Lg.mk l.at_ l.n l.ep l.used l.recs (l.dead || false)) = l) := by
    show _ = _
    cases l
    simp
  have hl1 : Hid ((Lg.mk l.at_ l.n l.ep l.used l.recs (l.dead || true)) = { l with dead := true }) := by
    show _ = _
    simp
  have hql : Hid (q < w.heap.size) := HQ.out.lt
  have HQF := Hid.mk' hqF
  clear hf hv hz H hq hR hbs hm hRR hqF
  rcases hcd with hc | hc
  · rw [hc, show errE 0 = .nilIface from rfl, show decide ((0 : Nat) ≠ 0) = false from rfl, hl0.out] at cW
    rw [hc, if_pos rfl] at HA0
    go_enter Tryz.func23, Tryz.ntmps23
    go_wp2_with fail
    refine c1.out.mono ?_
    rintro e w1 ⟨r, rfl, ho, hb⟩
    obtain ⟨ar, cr, rfl, _⟩ := Nm.own_shape ho
    rw [HM.out] at ho ⊢
    have C2 := Hid.mk' (cR.out w1 hb)
    have C3 : Hid (∀ k, _) := fun k => cW.out (w1.drewN k) _ (dnB hb k) (ownB ho (dnB (Below.refl _ _) k))
    have HB := Hid.mk' hb
    clear ho hb c1 cR cW
    go_wp2_with fail
    refine C2.out.mono ?_
    rintro e w2 ⟨rfl, k, rfl⟩
    go_wp2_with fail
    refine (C3.out k).mono ?_
    rintro e w3 ⟨rfl, hL⟩
    obtain ⟨G, _, hP, _⟩ := id hL
    obtain ⟨z0, z1, z2, z3, z4, z5, z6, zf⟩ := hP.cells
    obtain ⟨y0, y1, y2, y3, y4, y5, y6, yf⟩ := (hP.more m).1.cells
    have HL := Hid.mk' (left_below (dnB HB.out k) (left_more HH.out HQF.out (Nat.lt_of_lt_of_le hql.out (dnB HB.out k).size) hL m))
    simp only [Int.natCast_add] at y4
    clear C2 C3 hL hP
    go_wp2
    go_ret
    rw [HA0.out]
    exact ⟨rfl, HL.out⟩
  · rw [hc, show errE 22 = noE 22 from rfl, show decide ((22 : Nat) ≠ 0) = true from rfl, hl1.out] at cW
    rw [hc, if_neg (by decide)] at HA0
    go_enter Tryz.func23, Tryz.ntmps23
    go_wp2_with fail
    refine c1.out.mono ?_
    rintro e w1 ⟨r, rfl, ho, hb⟩
    obtain ⟨ar, cr, rfl, _⟩ := Nm.own_shape ho
    rw [HM.out] at ho ⊢
    have C2 := Hid.mk' (cR.out w1 hb)
    have C3 : Hid (∀ k, _) := fun k => cW.out (w1.drewN k) _ (dnB hb k) (ownB ho (dnB (Below.refl _ _) k))
    have HB := Hid.mk' hb
    clear ho hb c1 cR cW
    go_wp2_with fail
    refine C2.out.mono ?_
    rintro e w2 ⟨rfl, k, rfl⟩
    go_wp2_with fail
    refine (C3.out k).mono ?_
    rintro e w3 ⟨rfl, hL⟩
    have HL := Hid.mk' (left_below (dnB HB.out k) hL)
    clear C2 C3 hL
    go_wp2
    go_ret
    rw [HA0.out]
    exact ⟨rfl, HL.out⟩
end Lo
end Go.Proofs.YthdibodmnpcekaaGreatDoor
