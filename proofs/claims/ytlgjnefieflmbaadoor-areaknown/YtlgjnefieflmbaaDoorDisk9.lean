/- The program's disk: how it lies in memory, and that it answers as 'Says' asks. -/
import Derived.Test.YtlgjnefieflmbaaDoorDiskP
import Derived.Test.YtlgjnefieflmbaaDoorShelf
import Derived.Deep.AppendLies
import Derived.Laws.EntriesVeiled
import Derived.Deep.RegionHeld3
namespace Go.Proofs.YtlgjnefieflmbaaDoor
set_option linter.ambiguousOpen false
open Go.RowKit
namespace Dk
namespace Pd
open Sm Ft
set_option linter.unusedSimpArgs false
set_option linter.unusedVariables false

theorem lastK_pre (i : Int) (l x : List Raw) (k : Nat) (h : k ≤ l.length) : lastK i (l ++ x) k = lastK i l k := by
  induction k with
  | zero => rfl
  | succ k ih => rw [lastK, lastK, List.getElem?_append_left (by omega), ih (by omega)]

theorem lastK_snoc (i : Int) (l : List Raw) (r : Raw) : lastK i (l ++ [r]) (l ++ [r]).length = if r.1 = i then r.2 else lastK i l l.length := by
  rw [List.length_append, List.length_singleton, lastK, List.getElem?_append_right (Nat.le_refl _), Nat.sub_self, lastK_pre _ _ _ _ (Nat.le_refl _)]
  rfl

/-- The row of the blocks' texts. -/
def tl (d : Dsk) : List Value := (List.range d.n.toNat).map fun j : Nat => Value.string (tx (rdT d (j : Int)))

theorem tl_len (d : Dsk) : (tl d).length = d.n.toNat := by simp [tl]

theorem tl_at (d : Dsk) (i : Int) (h : 0 ≤ i ∧ i < d.n) : (tl d)[i.toNat]? = some (.string (tx (rdT d i))) := by
  rw [tl, List.getElem?_map, List.getElem?_range (by omega)]
  simp only [Option.map_some]
  rw [show ((i.toNat : Nat) : Int) = i by omega]

theorem tl_left (d : Dsk) (m : Int) : tl ⟨d.n, m, d.tr⟩ = tl d := rfl

theorem tl_snoc (d : Dsk) (m i : Int) (s : List UInt8) (h : 0 ≤ i ∧ i < d.n) : tl ⟨d.n, m, d.tr ++ [(i, s)]⟩ = (tl d).set i.toNat (.string (tx s)) := by
  apply List.ext_getElem?
  intro j
  by_cases hj : j < d.n.toNat
  · rw [List.getElem?_set, tl_len, tl, tl, List.getElem?_map, List.getElem?_map, List.getElem?_range (show j < (Dsk.mk d.n m (d.tr ++ [(i, s)])).n.toNat from hj)]
    simp only [Option.map_some]
    have hr : rdT ⟨d.n, m, d.tr ++ [(i, s)]⟩ (j : Int) = if i = (j : Int) then s else rdT d (j : Int) := by
      unfold rdT
      rw [if_pos (show 0 ≤ (j : Int) ∧ (j : Int) < d.n by omega), if_pos (show 0 ≤ (j : Int) ∧ (j : Int) < (Dsk.mk d.n m (d.tr ++ [(i, s)])).n from (show 0 ≤ (j : Int) ∧ (j : Int) < d.n by omega))]
      exact lastK_snoc _ _ (i, s)
    rw [hr]
    by_cases he : i = (j : Int)
    · rw [if_pos he, if_pos (by omega), if_pos (by omega)]
    · rw [if_neg he, if_neg (by omega)]
  · rw [List.getElem?_eq_none (by rw [tl_len]; show d.n.toNat ≤ j; omega), List.getElem?_eq_none (by rw [List.length_set, tl_len]; omega)]

theorem tl_new (n : Int) : tl ⟨n, -1, []⟩ = List.replicate n.toNat (.string ⟨#[]⟩) := by
  apply List.ext_getElem?
  intro j
  by_cases hj : j < n.toNat
  · rw [tl, List.getElem?_map, List.getElem?_range (show j < (Dsk.mk n (-1) []).n.toNat from hj), List.getElem?_replicate, if_pos hj]
    simp only [Option.map_some]
    have : rdT ⟨n, -1, []⟩ (j : Int) = [] := by
      unfold rdT
      rw [if_pos (by show 0 ≤ (j : Int) ∧ (j : Int) < n; omega)]
      rfl
    rw [this]
  · rw [List.getElem?_eq_none (by rw [tl_len]; show n.toNat ≤ j; omega), List.getElem?_eq_none (by rw [List.length_replicate]; omega)]

/-- The closure that a disk holds, and what it counts. -/
def Pw (w : World) (fv : Value) (left : Int) : Option Nat → Prop
  | none => left = -1 ∧ fv = .func (.func 72) #[] #[]
  | some b => (0 ≤ left ∧ left ≤ 9223372036854775807) ∧ fv = .func (.func 54) #[] #[ptr b] ∧ w.heap[b]? = some (.cells #[nu left] 3)

/-- A disk of the program. -/
structure Sd (w : World) (p bg bc : Nat) (tv fv : Value) (pw : Option Nat) (d : Dsk) : Prop where
  blk : w.heap[p]? = some (.cells #[.slice (some ⟨bg, 0, none⟩) d.n.toNat bc, tv, fv] 69)
  bl : w.ownsRow 0 9 1 (.slice (some ⟨bg, 0, none⟩) d.n.toNat bc) d.n.toNat (tl d)
  tr : w.ownsRow 0 71 2 tv d.tr.length (rcs d.tr)
  num : 1 ≤ d.n ∧ d.n ≤ 4096
  ok : ∀ r ∈ d.tr, (0 ≤ r.1 ∧ r.1 < d.n) ∧ r.2.length ≤ 256
  pwr : Pw w fv d.left pw
  s1 : bg ≠ p
  s2 : tv.ownBlock ≠ some p
  s3 : pw ≠ some p
  s4 : tv.ownBlock ≠ some bg
  s5 : pw ≠ some bg
  s6 : ∀ k, tv.ownBlock = some k → pw ≠ some k

def fp (p bg : Nat) (tv : Value) (pw : Option Nat) (k : Nat) : Prop := k = p ∨ k = bg ∨ tv.ownBlock = some k ∨ pw = some k

theorem keep1 (w : World) (a : Addr) (u : Value) : Keep (fun k => k = a.block) w (w.setCell a u) := (Keep.refl (fun k => k = a.block) w).setCell (p := a) (.inl rfl) u

theorem Pw.keep {w w' : World} {G : Nat → Prop} {fv : Value} {left : Int} {pw : Option Nat} (h : Pw w fv left pw) (hk : Keep G w w') (hn : ∀ k, pw = some k → ¬ G k) : Pw w' fv left pw := by
  cases pw with
  | none => exact h
  | some b => exact ⟨h.1, h.2.1, hk.at h.2.2 (hn b rfl)⟩

theorem Sd.keep {w w' : World} {G : Nat → Prop} {p bg bc : Nat} {tv fv : Value} {pw : Option Nat} {d : Dsk} (h : Sd w p bg bc tv fv pw d) (hk : Keep G w w') (hn : ∀ k, fp p bg tv pw k → ¬ G k) : Sd w' p bg bc tv fv pw d :=
  ⟨hk.at h.blk (hn p (.inl rfl)), hk.own h.bl (fun g hg => by
    simp [Value.ownBlock] at hg
    exact hn g (.inr (.inl hg.symm))), hk.own h.tr (fun g hg => hn g (.inr (.inr (.inl hg)))), h.num, h.ok, h.pwr.keep hk (fun k e => hn k (.inr (.inr (.inr e)))), h.s1, h.s2, h.s3, h.s4, h.s5, h.s6⟩

theorem Sd.below {w w' : World} {p bg bc : Nat} {tv fv : Value} {pw : Option Nat} {d : Dsk} (h : Sd w p bg bc tv fv pw d) (hb : Below w.heap.size w w') : Sd w' p bg bc tv fv pw d :=
  h.keep (G := fun _ => False) (Keep.of_below hb) (fun _ _ h => h)

theorem Sd.lt {w : World} {p bg bc : Nat} {tv fv : Value} {pw : Option Nat} {d : Dsk} (h : Sd w p bg bc tv fv pw d) (k : Nat) (hk : fp p bg tv pw k) : k < w.heap.size := by
  rcases hk with rfl | rfl | hk | rfl
  · exact (Array.getElem?_eq_some_iff.1 h.blk).1
  · exact (h.bl.lt k rfl).2
  · exact (h.tr.lt k hk).2
  · exact (Array.getElem?_eq_some_iff.1 h.pwr.2.2).1

/-- Rep. -/
def Rep (w : World) (p : Nat) (F : Nat → Prop) (d : Dsk) : Prop := ∃ bg bc tv fv pw, Sd w p bg bc tv fv pw d ∧ F = fp p bg tv pw

theorem Sd.cells {w : World} {p bg bc : Nat} {tv fv : Value} {pw : Option Nat} {d : Dsk} (h : Sd w p bg bc tv fv pw d) : w.cell? ⟨p, 0, none⟩ = some (.slice (some ⟨bg, 0, none⟩) d.n.toNat bc) ∧ w.cell? ⟨p, 1, none⟩ = some tv ∧ w.cell? ⟨p, 2, none⟩ = some fv := by
  simp [World.cell?, h.blk]

theorem Sd.free {w : World} {p bg bc : Nat} {tv fv : Value} {pw : Option Nat} {d : Dsk} (h : Sd w p bg bc tv fv pw d) (i : Nat) : w.frozen? ⟨p, i, none⟩ = false := by
  simp [World.frozen?, h.blk]

/-- The trail's value. -/
theorem Sd.trv {w : World} {p bg bc : Nat} {tv fv : Value} {pw : Option Nat} {d : Dsk} (h : Sd w p bg bc tv fv pw d) : ∃ a cap, tv = .slice a d.tr.length cap ∧ d.tr.length ≤ cap ∧ cap ≤ maxLen := by
  rcases h.tr.2 with ⟨rfl, h0⟩ | ⟨g', cap, cur, rfl, _, _, h3, h4, _⟩
  · exact ⟨none, 0, by rw [h0], by omega, by decide⟩
  · exact ⟨_, cap, rfl, h3, h4⟩

theorem Sd.text {w : World} {p bg bc : Nat} {tv fv : Value} {pw : Option Nat} {d : Dsk} (h : Sd w p bg bc tv fv pw d) (i : Int) (hi : 0 ≤ i ∧ i < d.n) : w.cell? ⟨bg, i.toNat, none⟩ = some (.string (tx (rdT d i))) ∧ w.frozen? ⟨bg, i.toNat, none⟩ = false := by
  refine ⟨?_, own_free h.bl _⟩
  exact (h.bl.cellAt i.toNat (by rw [Nat.mul_one]; omega)).trans (tl_at d i hi)

/-- The power's closure is another one. -/
theorem Sd.turn {w w' : World} {p bg bc : Nat} {tv fv fv' : Value} {pw pw' : Option Nat} {d : Dsk} {m : Int} (h : Sd w p bg bc tv fv pw d) (hb : Below w.heap.size w w') (hp : Pw w' fv' m pw') (hn : ∀ b, pw' = some b → w.heap.size ≤ b) :
    Sd (w'.setCell ⟨p, 2, none⟩ fv') p bg bc tv fv' pw' ⟨d.n, m, d.tr⟩ ∧ Keep (fp p bg tv pw) w (w'.setCell ⟨p, 2, none⟩ fv') ∧ Goes w (fp p bg tv pw) (fp p bg tv pw') := by
  have h1 := h.below hb
  have hlp := h.lt p (.inl rfl)
  have hK : Keep (fun k => k = p) w' (w'.setCell ⟨p, 2, none⟩ fv') := keep1 _ ⟨p, 2, none⟩ _
  refine ⟨⟨heap_setCell_same _ p 2 _ _ _ h1.blk, hK.own h1.bl (fun k hk e => ?_), hK.own h1.tr (fun k hk e => ?_), h.num, h.ok, hp.keep hK (fun k e e2 => ?_), h.s1, h.s2, fun e => ?_, h.s4, fun e => ?_, fun k hk e => ?_⟩, ?_, ?_⟩
  · simp [Value.ownBlock] at hk
    exact h.s1 (by omega)
  · exact h.s2 (by rw [hk, e])
  · have := hn k e; omega
  · have := hn p e; omega
  · have := hn bg e
    have := h.lt bg (.inr (.inl rfl))
    omega
  · have := hn k e
    have := h.lt k (.inr (.inr (.inl hk)))
    omega
  · exact (Keep.of_below hb).setCell (p := ⟨p, 2, none⟩) (.inl (.inl rfl)) _
  · intro k hk
    rcases hk with rfl | rfl | hk | hk
    · exact .inl (.inl rfl)
    · exact .inl (.inr (.inl rfl))
    · exact .inl (.inr (.inr (.inl hk)))
    · exact .inr (hn k hk)

/-- One less of what is left. -/
theorem Sd.count {w : World} {p bg bc b : Nat} {tv fv : Value} {d : Dsk} {m : Int} (h : Sd w p bg bc tv fv (some b) d) (hm : 0 ≤ m ∧ m ≤ 9223372036854775807) :
    Sd (w.setCell ⟨b, 0, none⟩ (nu m)) p bg bc tv fv (some b) ⟨d.n, m, d.tr⟩ ∧ Keep (fp p bg tv (some b)) w (w.setCell ⟨b, 0, none⟩ (nu m)) := by
  have hK : Keep (fun k => k = b) w (w.setCell ⟨b, 0, none⟩ (nu m)) := keep1 _ ⟨b, 0, none⟩ _
  refine ⟨⟨hK.at h.blk (fun e => h.s3 (by rw [e])), hK.own h.bl (fun k hk e => ?_), hK.own h.tr (fun k hk e => ?_), h.num, h.ok, ⟨hm, h.pwr.2.1, heap_setCell_same _ b 0 _ _ _ h.pwr.2.2⟩, h.s1, h.s2, h.s3, h.s4, h.s5, h.s6⟩, (Keep.refl _ _).setCell (p := ⟨b, 0, none⟩) (.inl (.inr (.inr (.inr rfl)))) _⟩
  · simp [Value.ownBlock] at hk
    exact h.s5 (by rw [hk, e])
  · exact h.s6 k hk (by rw [e])

/-- Where the row lies behind a call: where it lay, or in what is new. -/
def MovesT (w : World) (v v' : Value) : Prop := ∀ k, v'.ownBlock = some k → v.ownBlock = some k ∨ w.heap.size ≤ k

theorem Sd.textSet {w : World} {p bg bc : Nat} {tv fv : Value} {pw : Option Nat} {d : Dsk} (h : Sd w p bg bc tv fv pw d) (j : Nat) (u : Value) :
    (w.setCell ⟨bg, j, none⟩ u).heap[p]? = some (.cells #[.slice (some ⟨bg, 0, none⟩) d.n.toNat bc, tv, fv] 69) ∧ (w.setCell ⟨bg, j, none⟩ u).ownsRow 0 71 2 tv d.tr.length (rcs d.tr) ∧ (w.setCell ⟨bg, j, none⟩ u).heap.size = w.heap.size := by
  have hK : Keep (fun k => k = bg) w (w.setCell ⟨bg, j, none⟩ u) := keep1 _ ⟨bg, j, none⟩ _
  exact ⟨hK.at h.blk (fun e => h.s1 e.symm), hK.own h.tr (fun k hk e => h.s4 (by rw [hk, e])), by simp [World.setCell]⟩

/-- A raw write behind the others. -/
theorem Sd.put {w w4 : World} {p bg bc g2 cap2 H : Nat} {tv fv : Value} {pw : Option Nat} {d : Dsk} {i : Int} {s : List UInt8} {o : Obj} (h : Sd w p bg bc tv fv pw d) (hi : 0 ≤ i ∧ i < d.n) (hs : s.length ≤ 256)
    (ho : w4.ownsRow 0 71 2 (.slice (some ⟨g2, 0, none⟩) (d.tr.length + 1) cap2) (d.tr.length + 1) (rcs d.tr ++ rc (i, s)))
    (hg : ((w.setCell ⟨bg, i.toNat, none⟩ (.string (tx s))).alloc o).grownBy w4 tv.ownBlock) (h2 : tv.ownBlock = some g2 ∨ g2 = H + 1) (hH : w.heap.size = H) :
    w4.heap[p]? = some (.cells #[.slice (some ⟨bg, 0, none⟩) d.n.toNat bc, tv, fv] 69) ∧
    Sd (w4.setCell ⟨p, 1, none⟩ (.slice (some ⟨g2, 0, none⟩) (d.tr.length + 1) cap2)) p bg bc (.slice (some ⟨g2, 0, none⟩) (d.tr.length + 1) cap2) fv pw ⟨d.n, d.left, d.tr ++ [(i, s)]⟩ ∧
    Keep (fp p bg tv pw) w (w4.setCell ⟨p, 1, none⟩ (.slice (some ⟨g2, 0, none⟩) (d.tr.length + 1) cap2)) ∧
    MovesT w tv (.slice (some ⟨g2, 0, none⟩) (d.tr.length + 1) cap2) := by
  have lp := h.lt p (.inl rfl)
  have lb := h.lt bg (.inr (.inl rfl))
  have hlt : ∀ k, k < w.heap.size → k < ((w.setCell ⟨bg, i.toNat, none⟩ (.string (tx s))).alloc o).heap.size := fun k hk => by simp [World.setCell]; omega
  have hK0 : Keep (fun k => k = bg) w ((w.setCell ⟨bg, i.toNat, none⟩ (.string (tx s))).alloc o) := (keep1 _ ⟨bg, i.toNat, none⟩ _).alloc o
  have hK4 : Keep (fun k => k = bg ∨ tv.ownBlock = some k) w w4 := (hK0.weaken (G := fun k => k = bg ∨ tv.ownBlock = some k) (fun _ _ e => .inl e)).grown hg (fun k hk => .inl (.inr hk))
  have hb : w4.heap[p]? = some (.cells #[.slice (some ⟨bg, 0, none⟩) d.n.toNat bc, tv, fv] 69) := hK4.at h.blk (fun e => by
    rcases e with e | e
    · exact h.s1 e.symm
    · exact h.s2 e)
  have hgp : g2 ≠ p := by
    rcases h2 with h2 | h2
    · intro e; exact h.s2 (by rw [h2, e])
    · omega
  have hgb : g2 ≠ bg := by
    rcases h2 with h2 | h2
    · intro e; exact h.s4 (by rw [h2, e])
    · omega
  have hKp : Keep (fun k => k = p) w4 (w4.setCell ⟨p, 1, none⟩ (.slice (some ⟨g2, 0, none⟩) (d.tr.length + 1) cap2)) := keep1 _ ⟨p, 1, none⟩ _
  have hbl4 : w4.ownsRow 0 9 1 (.slice (some ⟨bg, 0, none⟩) d.n.toNat bc) d.n.toNat ((tl d).set i.toNat (.string (tx s))) := by
    have h5 := ((own_set h.bl i.toNat (.string (tx s))).alloc o).kept hg (.inr (by
      simp [Value.ownBlock]
      intro e
      exact h.s4 e.symm))
    exact h5
  refine ⟨hb, ⟨heap_setCell_same _ p 1 _ _ _ hb, ?_, ?_, h.num, ?_, ?_, h.s1, ?_, h.s3, ?_, h.s5, ?_⟩, ?_, ?_⟩
  · rw [tl_snoc d d.left i s hi]
    exact hKp.own hbl4 (fun k hk e => by
      simp [Value.ownBlock] at hk
      exact h.s1 (by omega))
  · have := hKp.own ho (fun k hk e => by
      simp [Value.ownBlock] at hk
      omega)
    show (w4.setCell _ _).ownsRow 0 _ 2 _ (d.tr ++ [(i, s)]).length (rcs (d.tr ++ [(i, s)]))
    rw [List.length_append, List.length_singleton, rcs_snoc]
    exact this
  · intro r hr
    rcases List.mem_append.1 hr with hr | hr
    · exact h.ok r hr
    · rw [List.mem_singleton.1 hr]
      exact ⟨hi, hs⟩
  · exact (h.pwr.keep hK4 (fun k e e2 => by
      rcases e2 with e2 | e2
      · exact h.s5 (by rw [e, e2])
      · exact h.s6 k e2 e)).keep hKp (fun k e e2 => h.s3 (by rw [e, e2]))
  · simp [Value.ownBlock]
    exact hgp
  · simp [Value.ownBlock]
    exact hgb
  · intro k hk e
    simp [Value.ownBlock] at hk
    subst hk
    rcases h2 with h2 | h2
    · exact h.s6 _ h2 e
    · have := h.lt g2 (.inr (.inr (.inr e)))
      omega
  · exact (hK4.weaken (G := fp p bg tv pw) (fun k _ e => by
      rcases e with e | e
      · exact .inr (.inl e)
      · exact .inr (.inr (.inl e)))).setCell (p := ⟨p, 1, none⟩) (.inl (.inl rfl)) _
  · intro k hk
    simp [Value.ownBlock] at hk
    subst hk
    rcases h2 with h2 | h2
    · exact .inl h2
    · exact .inr (by omega)

theorem clone_s (s : ByteArray) (w : World) (h : s.size ≤ 281474976710656) :
    Calls Tryd.prog 42 #[.string s] w fun e w' => e = .returned (.string s) ∧ Below w.heap.size w w' := by
  go_enter Tryd.func42, Tryd.ntmps42
  go_wp2_with (go_at_call 68; refine (Tryd.stringslite_Clone _ _ h).mono ?_; rintro e w1 ⟨rfl, hb1⟩)
  go_ret
  exact ⟨rfl, hb1⟩

theorem has_any (w : World) (p bg bc : Nat) (tv fv : Value) (pw : Option Nat) (d : Dsk) (i : Int) (h : Sd w p bg bc tv fv pw d) :
    Calls Tryd.prog 32 #[ptr p, nu i] w fun e w' => e = .returned (.bool (decide (0 ≤ i ∧ i < d.n))) ∧ w' = w := by
  obtain ⟨q0, _, _⟩ := h.cells
  have hn := h.num
  obtain ⟨n, hnn⟩ : ∃ n : Nat, d.n.toNat = n := ⟨_, rfl⟩
  have hnI : d.n = (n : Int) := by omega
  rw [hnn] at q0
  rw [hnI]
  have hn2 : n ≤ 4096 := by omega
  clear h hn hnn hnI
  by_cases h1 : 0 ≤ i
  · by_cases h2 : i < (n : Int)
    · have e : decide (0 ≤ i ∧ i < (n : Int)) = true := decide_eq_true ⟨h1, h2⟩
      rw [e]
      go_enter Tryd.func32, Tryd.ntmps32
      go_wp2
      go_ret
      exact ⟨rfl, rfl⟩
    · have e : decide (0 ≤ i ∧ i < (n : Int)) = false := decide_eq_false (by omega)
      rw [e]
      go_enter Tryd.func32, Tryd.ntmps32
      go_wp2
      go_ret
      exact ⟨rfl, rfl⟩
  · have e : decide (0 ≤ i ∧ i < (n : Int)) = false := decide_eq_false (by omega)
    rw [e]
    go_enter Tryd.func32, Tryd.ntmps32
    go_wp2
    go_ret
    exact ⟨rfl, rfl⟩

theorem dk3 {w : World} {p : Nat} {a b c : Value} (h : w.heap[p]? = some (.cells #[a, b, c] 69)) : w.cell? ⟨p, 0, none⟩ = some a ∧ w.cell? ⟨p, 1, none⟩ = some b ∧ w.cell? ⟨p, 2, none⟩ = some c ∧ ∀ i, w.frozen? ⟨p, i, none⟩ = false := by
  simp [World.cell?, World.frozen?, h]

set_option maxRecDepth 100000 in
set_option maxHeartbeats 2000000 in
theorem put_any (w : World) (p bg bc : Nat) (tv fv : Value) (pw : Option Nat) (d : Dsk) (i : Int) (s : List UInt8) (h : Sd w p bg bc tv fv pw d) (hi : 0 ≤ i ∧ i < d.n) (hl : d.tr.length ≤ 1000000000) (hs : s.length ≤ 256) :
    Calls Tryd.prog 55 #[ptr p, nu i, .string (tx s)] w fun e w' => (∃ u, e = .returned u) ∧ ∃ tv', Sd w' p bg bc tv' fv pw ⟨d.n, d.left, d.tr ++ [(i, s)]⟩ ∧ Keep (fp p bg tv pw) w w' ∧ MovesT w tv tv' := by
  obtain ⟨i0, ji, hz0, hz1, hz2⟩ := info_parts info_raw
  have c1 : Hid (∀ wx, Calls Tryd.prog 42 #[.string (tx s)] wx fun e w' => e = .returned (.string (tx s)) ∧ Below wx.heap.size wx w') := fun wx => clone_s _ _ (Nat.le_trans hs (by decide))
  have hsd := Hid.mk' h
  have hnum := h.num
  obtain ⟨n, hnn⟩ : ∃ n : Nat, d.n.toNat = n := ⟨_, rfl⟩
  obtain ⟨k, hk⟩ : ∃ k : Nat, i = (k : Int) := ⟨i.toNat, by omega⟩
  have hkn : k < n := by omega
  have hn4 : n ≤ 4096 := by omega
  subst hk
  have hHi := Hid.mk' hi
  have hHn := Hid.mk' hnn
  clear hi hnn hnum h
  go_enter Tryd.func55, Tryd.ntmps55
  go_wp2_with fail
  refine (c1.out _).mono ?_
  rintro e w1 ⟨rfl, hb1⟩
  have h1 := hsd.out.below hb1
  have hS1 := Hid.mk' h1
  have hB1 := Hid.mk' hb1
  obtain ⟨q0, q1, q2⟩ := h1.cells
  rw [hHn.out] at q0
  obtain ⟨t0, tf⟩ := h1.text (k : Int) hHi.out
  rw [Int.toNat_natCast] at t0 tf
  obtain ⟨z1, z2, z3⟩ := h1.textSet k (.string (tx s))
  have hrow := Hid.mk' z2
  rw [hHn.out] at z1
  obtain ⟨y0, y1, y2, yf⟩ := dk3 z1
  have HSS := Hid.mk' z3
  have hrc : Hid (rc ((k : Int), s) = [nu (k : Int), .string (tx s)]) := rfl
  have hsz1 : Hid (((w1.setCell ⟨bg, k, none⟩ (.string (tx s))).alloc (.cells #[nu (k : Int), .string (tx s)] 71)).heap.size = w1.heap.size + 1) := by show _ = _; simp [z3]
  have hnb : Hid (((w1.setCell ⟨bg, k, none⟩ (.string (tx s))).alloc (.cells #[nu (k : Int), .string (tx s)] 71)).heap[w1.heap.size]? = some (.cells #[nu (k : Int), .string (tx s)] 71)) := by
    have := heap_alloc_new (w1.setCell ⟨bg, k, none⟩ (.string (tx s))) (.cells #[nu (k : Int), .string (tx s)] 71)
    rw [z3] at this
    exact this
  have hone : Hid (∀ u ∈ [nu (k : Int), Value.string (tx s)], u.oneCell' = true) := by intro u hu; simp at hu; rcases hu with rfl | rfl <;> rfl
  have hmx : Hid (d.tr.length + 1 ≤ maxLen) := by show _ ≤ _; unfold maxLen; omega
  have hby : Hid ((d.tr.length + 1) * 24 ≤ 140737488355328) := by show _ ≤ _; omega
  have hput : Hid (∀ (w4 : World) (g2 cap2 : Nat) (o : Obj), w4.ownsRow 0 71 2 (.slice (some ⟨g2, 0, none⟩) (d.tr.length + 1) cap2) (d.tr.length + 1) (rcs d.tr ++ rc ((k : Int), s)) → ((w1.setCell ⟨bg, k, none⟩ (.string (tx s))).alloc o).grownBy w4 tv.ownBlock → (tv.ownBlock = some g2 ∨ g2 = w1.heap.size + 1) → _) := fun w4 g2 cap2 o a1 a2 a3 => hS1.out.put hHi.out hs a1 (by rw [Int.toNat_natCast]; exact a2) a3 rfl
  clear h1 hb1 z1 z2 z3 c1 hsd
  generalize tx s = f at *
  go_wp2_with (at_builtin; refine wpList_append_lies _ rfl _ _ 43 rfl 0 71 i0 (.agg #[.int .i64 0, .string ⟨#[]⟩]) 2 24 Tryd.underlying43 ji hz0 hz1 hz2 rfl (by decide) tv d.tr.length (rcs d.tr) rfl (hrow.out.alloc _) ⟨w1.heap.size, 0, none⟩ 1 1 [nu (k : Int), .string f] rfl rfl (World.news_of_block hnb.out) hone.out (by decide) hmx.out hby.out (Nat.zero_le _) (w1.heap.size + 1) hsz1.out ?_; intro g2 cap2 w4 hown4 hgrow hg2 hlt2; rw [← hrc.out] at hown4; obtain ⟨hblk, hRd, hKp, hMv⟩ := hput.out _ _ _ _ hown4 hgrow hg2; obtain ⟨x0, x1, x2, xf⟩ := dk3 hblk; have HRd := Hid.mk' hRd; have HKp := Hid.mk' hKp; have HMv := Hid.mk' hMv; clear hblk hRd hKp hMv hown4 hgrow)
  go_wp2
  go_end0
  exact ⟨⟨_, rfl⟩, _, HRd.out, (Keep.of_below hB1.out).trans HKp.out (fun _ _ hk => hk), fun k hk => by
    rcases HMv.out k hk with h | h
    · exact .inl h
    · exact .inr (Nat.le_trans hB1.out.size h)⟩
end Pd
end Dk
end Go.Proofs.YtlgjnefieflmbaaDoor
