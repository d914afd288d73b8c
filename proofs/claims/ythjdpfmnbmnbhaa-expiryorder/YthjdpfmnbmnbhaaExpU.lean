/- ExpiryOrder: the law's own variables. -/
import Derived.Test.YthjdpfmnbmnbhaaExpT
import Derived.Test.YthjdpfmnbmnbhaaExpN
import Derived.Test.YthjdpfmnbmnbhaaRoundIn
import Derived.Deep.RegionHeld3
import Derived.Deep.CutBlock
import Derived.BigQuiet
namespace Go.Proofs.Ythjdpfmnbmnbhaa
set_option linter.ambiguousOpen false
open Go.RowKit
namespace Ex
open Hh Ft
set_option linter.unusedSimpArgs false
set_option linter.unusedVariables false
attribute [local go_sem] Oper.semAt_some

theorem ret_nuO {a b : Int} (h : a = b) : Ending.returned (nu a) = Ending.returned (nu b) := by rw [h]

theorem pickO (k : Int) (n : Nat) (w : World) (hn : 0 < n) (hn2 : n ≤ 4611686018427387904) (hk : -9223372036854775808 ≤ k ∧ k ≤ 9223372036854775807) :
    Calls Try.prog 7 #[nu k, nu n] w fun e w' => e = .returned (nu (k % (n : Int))) ∧ w' = w := by
  have d1 : (decide ((n : Int) < 1)) = false := by simp; omega
  have e1 := Int.emod_add_mul_ediv k n
  have e2 := Int.emod_nonneg k (b := (n : Int)) (by omega)
  have e3 := Int.emod_lt_of_pos k (b := (n : Int)) (by omega)
  have te : k.tmod n = k % (n : Int) ∨ k.tmod n = k % (n : Int) - n := by
    rw [Int.tmod_eq_emod]
    split
    · left; omega
    · right; simp
  clear e1
  by_cases h : k.tmod n < 0
  · have HT : Hid (k.tmod n + n = k % (n : Int)) := by
      show _ = _
      omega
    have b1 : -(n : Int) ≤ k.tmod n := by omega
    clear te e2 e3
    go_enter Try.func7, Try.ntmps7
    go_wp2
    go_ret
    exact ⟨ret_nuO HT.out, rfl⟩
  · have HT : Hid (k.tmod n = k % (n : Int)) := by
      show _ = _
      omega
    clear te e2 e3
    go_enter Try.func7, Try.ntmps7
    go_wp2
    go_ret
    exact ⟨ret_nuO HT.out, rfl⟩

/-- Ints that came in. -/
def RdU (w : World) (v : Value) (l : List Int) : Prop :=
  ∃ a cap, v = .slice a l.length cap ∧ l.length ≤ cap ∧ cap ≤ maxLen ∧ (0 < l.length → ∃ g o, a = some ⟨g, o, none⟩ ∧ g < w.heap.size ∧ ∀ i x, l[i]? = some x → w.cell? ⟨g, o + i, none⟩ = some (nu x))

/-- The law's variables ahead of the loop over what is due. -/
structure La (W : World) (q0 q1 ab nb : Nat) (now : Int) (n : Nat) (g : Nat → Int) : Prop where
  e0 : W.heap[q0]? = some (.cells #[nu now] 3)
  e1 : W.heap[q1]? = some (.cells #[.bool false] 4)
  ea : Iz W ab g
  en : W.heap[nb]? = some (.cells #[nun n] 3)
  ne : q0 ≠ ab ∧ q1 ≠ ab ∧ ab ≠ nb ∧ q0 ≠ q1 ∧ q0 ≠ nb ∧ q1 ≠ nb

@[reducible] def Qa (q0 q1 ab nb : Nat) (k : Nat) : Prop := k = q0 ∨ k = q1 ∨ k = ab ∨ k = nb

section
variable {W W' : World} {q0 q1 ab nb n : Nat} {now : Int} {g : Nat → Int} {E : Nat → Prop}

theorem La.keep (h : La W q0 q1 ab nb now n g) (hk : Keep E W W') (hn : ∀ k, Qa q0 q1 ab nb k → ¬ E k) : La W' q0 q1 ab nb now n g :=
  ⟨hk.at h.e0 (hn _ (.inl rfl)), hk.at h.e1 (hn _ (.inr (.inl rfl))), hk.at h.ea (hn _ (.inr (.inr (.inl rfl)))), hk.at h.en (hn _ (.inr (.inr (.inr rfl)))), h.ne⟩

theorem La.below (h : La W q0 q1 ab nb now n g) (hb : Below W.heap.size W W') : La W' q0 q1 ab nb now n g := h.keep (Keep.of_below (F := fun _ => False) hb) (fun _ _ e => e)

theorem La.cells (h : La W q0 q1 ab nb now n g) : W.cell? ⟨q0, 0, none⟩ = some (nu now) ∧ W.cell? ⟨q1, 0, none⟩ = some (.bool false) ∧ W.frozen? ⟨q1, 0, none⟩ = false ∧ W.cell? ⟨nb, 0, none⟩ = some (nun n) :=
  ⟨by rw [cell_of_row W q0 0 _ _ _ h.e0]; rfl, by rw [cell_of_row W q1 0 _ _ _ h.e1]; rfl, by simp [World.frozen?, h.e1], by rw [cell_of_row W nb 0 _ _ _ h.en]; rfl⟩

/-- One deadline more. -/
theorem La.put (h : La W q0 q1 ab nb now n g) (j : Nat) (v : Int) : La (W.setCell ⟨ab, j, none⟩ (nu v)) q0 q1 ab nb now n (fun t => if t = j then v else g t) := by
  have hk := set_keepE W ab j (nu v)
  exact ⟨hk.at h.e0 h.ne.1, hk.at h.e1 h.ne.2.1, h.ea.set j v, hk.at h.en (Ne.symm h.ne.2.2.1), h.ne⟩

theorem La.lt (h : La W q0 q1 ab nb now n g) : ∀ k, Qa q0 q1 ab nb k → k < W.heap.size := by
  rintro k (rfl | rfl | rfl | rfl)
  · exact (Array.getElem?_eq_some_iff.1 h.e0).1
  · exact (Array.getElem?_eq_some_iff.1 h.e1).1
  · exact (Array.getElem?_eq_some_iff.1 h.ea).1
  · exact (Array.getElem?_eq_some_iff.1 h.en).1
end

/-- The deadlines that have been put in. -/
def dzE (j n : Nat) (d : Nat → Int) (t : Nat) : Int := if j ≤ t ∧ t < n then d t else 0

theorem dzE_put (j n : Nat) (d : Nat → Int) (hj : j < n) : (fun t => if t = j then d j else dzE (j + 1) n d t) = dzE j n d := by
  funext t
  unfold dzE
  by_cases e : t = j
  · subst e
    rw [if_pos rfl, if_pos ⟨Nat.le_refl _, hj⟩]
  · rw [if_neg e]
    by_cases h : j + 1 ≤ t ∧ t < n
    · rw [if_pos h, if_pos ⟨by omega, h.2⟩]
    · rw [if_neg h, if_neg (by omega)]

theorem dzE_all (n : Nat) (d : Nat → Int) {t : Nat} (h : t < n) : dzE 0 n d t = d t := by
  unfold dzE
  rw [if_pos ⟨Nat.zero_le _, h⟩]

/-- The law's variables amid the loop. -/
structure Lv2 (W : World) (ob cb lb : Nat) (f : Nat → Bool) (cnt : Nat) (la : Int × Int) : Prop where
  eo : Dz W ob f
  ec : W.heap[cb]? = some (.cells #[nun cnt] 3)
  el : W.heap[lb]? = some (.cells #[nu la.1, nu la.2] 32)
  ne : ob ≠ cb ∧ ob ≠ lb ∧ cb ≠ lb

@[reducible] def Qb (ob cb lb : Nat) (k : Nat) : Prop := k = ob ∨ k = cb ∨ k = lb

section
variable {W W' : World} {ob cb lb cnt : Nat} {f : Nat → Bool} {la : Int × Int} {E : Nat → Prop}

theorem Lv2.keep (h : Lv2 W ob cb lb f cnt la) (hk : Keep E W W') (hn : ∀ k, Qb ob cb lb k → ¬ E k) : Lv2 W' ob cb lb f cnt la :=
  ⟨hk.at h.eo (hn _ (.inl rfl)), hk.at h.ec (hn _ (.inr (.inl rfl))), hk.at h.el (hn _ (.inr (.inr rfl))), h.ne⟩

theorem Lv2.lt (h : Lv2 W ob cb lb f cnt la) : ∀ k, Qb ob cb lb k → k < W.heap.size := by
  rintro k (rfl | rfl | rfl)
  · exact (Array.getElem?_eq_some_iff.1 h.eo).1
  · exact (Array.getElem?_eq_some_iff.1 h.ec).1
  · exact (Array.getElem?_eq_some_iff.1 h.el).1

theorem Lv2.cells (h : Lv2 W ob cb lb f cnt la) : W.cell? ⟨cb, 0, none⟩ = some (nun cnt) ∧ W.frozen? ⟨cb, 0, none⟩ = false ∧ W.cell? ⟨lb, 0, none⟩ = some (nu la.1) ∧ W.cell? ⟨lb, 1, none⟩ = some (nu la.2) ∧ W.frozen? ⟨lb, 0, none⟩ = false ∧ W.frozen? ⟨lb, 1, none⟩ = false :=
  ⟨by rw [cell_of_row W cb 0 _ _ _ h.ec]; rfl, by simp [World.frozen?, h.ec], by rw [cell_of_row W lb 0 _ _ _ h.el]; rfl, by rw [cell_of_row W lb 1 _ _ _ h.el]; rfl, by simp [World.frozen?, h.el], by simp [World.frozen?, h.el]⟩
end

/-- Amid the putting in. -/
def Sa (R : RepXT) (w : World) (p q0 q1 ab nb : Nat) (now : Int) (n : Nat) (d : Nat → Int) (j : Nat) (W : World) : Prop :=
  ∃ F L, Xe R w W p F L ∧ From j n d L ∧ La W q0 q1 ab nb now n (dzE j n d) ∧ (∀ k, Qa q0 q1 ab nb k → ¬ F k ∧ w.heap.size ≤ k)

/-- What a round leaves. -/
theorem round_facts {W : World} {q0 q1 ab nb n ob cb lb xb cnt i c9 : Nat} {now s u : Int} {g : Nat → Int} {f : Nat → Bool} {la : Int × Int} (ha : La W q0 q1 ab nb now n g) (hl : Lv2 W ob cb lb f cnt la) (hx : W.heap[xb]? = some (.cells #[nu s, nu u] 32))
    (hd : ∀ k, Qa q0 q1 ab nb k → ¬ Qb ob cb lb k) (hxb : ¬ Qb ob cb lb xb) (hi : i < 32) (hc9 : cnt + 1 = c9) :
    ((∃ v, W.cell? ⟨ob, i, none⟩ = some v) ∧ W.frozen? ⟨ob, i, none⟩ = false ∧
     (W.setCell ⟨ob, i, none⟩ (.bool true)).cell? ⟨xb, 0, none⟩ = some (nu s) ∧ (W.setCell ⟨ob, i, none⟩ (.bool true)).cell? ⟨xb, 1, none⟩ = some (nu u) ∧
     (W.setCell ⟨ob, i, none⟩ (.bool true)).cell? ⟨lb, 0, none⟩ = some (nu la.1) ∧ (W.setCell ⟨ob, i, none⟩ (.bool true)).cell? ⟨lb, 1, none⟩ = some (nu la.2) ∧ (W.setCell ⟨ob, i, none⟩ (.bool true)).frozen? ⟨lb, 0, none⟩ = false ∧ (W.setCell ⟨ob, i, none⟩ (.bool true)).frozen? ⟨lb, 1, none⟩ = false ∧
     (((W.setCell ⟨ob, i, none⟩ (.bool true)).setCell ⟨lb, 0, none⟩ (nu s)).setCell ⟨lb, 1, none⟩ (nu u)).cell? ⟨cb, 0, none⟩ = some (nun cnt) ∧ (((W.setCell ⟨ob, i, none⟩ (.bool true)).setCell ⟨lb, 0, none⟩ (nu s)).setCell ⟨lb, 1, none⟩ (nu u)).frozen? ⟨cb, 0, none⟩ = false ∧
     ((((W.setCell ⟨ob, i, none⟩ (.bool true)).setCell ⟨lb, 0, none⟩ (nu s)).setCell ⟨lb, 1, none⟩ (nu u)).setCell ⟨cb, 0, none⟩ (nun c9)).cell? ⟨cb, 0, none⟩ = some (nun c9) ∧ ((((W.setCell ⟨ob, i, none⟩ (.bool true)).setCell ⟨lb, 0, none⟩ (nu s)).setCell ⟨lb, 1, none⟩ (nu u)).setCell ⟨cb, 0, none⟩ (nun c9)).cell? ⟨nb, 0, none⟩ = some (nun n)) ∧
    Lv2 ((((W.setCell ⟨ob, i, none⟩ (.bool true)).setCell ⟨lb, 0, none⟩ (nu s)).setCell ⟨lb, 1, none⟩ (nu u)).setCell ⟨cb, 0, none⟩ (nun c9)) ob cb lb (fun t => if t = i then true else f t) c9 (s, u) ∧
    La ((((W.setCell ⟨ob, i, none⟩ (.bool true)).setCell ⟨lb, 0, none⟩ (nu s)).setCell ⟨lb, 1, none⟩ (nu u)).setCell ⟨cb, 0, none⟩ (nun c9)) q0 q1 ab nb now n g ∧
    Keep (Qb ob cb lb) W ((((W.setCell ⟨ob, i, none⟩ (.bool true)).setCell ⟨lb, 0, none⟩ (nu s)).setCell ⟨lb, 1, none⟩ (nu u)).setCell ⟨cb, 0, none⟩ (nun c9)) := by
  have hne := hl.ne
  have k1 := set_keepE W ob i (.bool true)
  have k2 := set_keepE (W.setCell ⟨ob, i, none⟩ (.bool true)) lb 0 (nu s)
  have k3 := set_keepE ((W.setCell ⟨ob, i, none⟩ (.bool true)).setCell ⟨lb, 0, none⟩ (nu s)) lb 1 (nu u)
  have k4 := set_keepE (((W.setCell ⟨ob, i, none⟩ (.bool true)).setCell ⟨lb, 0, none⟩ (nu s)).setCell ⟨lb, 1, none⟩ (nu u)) cb 0 (nun c9)
  have x1 := k1.at hx (fun e => hxb (.inl e))
  have l1 := k1.at hl.el (fun e => hne.2.1 e.symm)
  have c1 := k1.at hl.ec (fun e => hne.1 e.symm)
  have o1 := hl.eo.set i true
  have l3 := set_two (nu s) (nu u) l1
  have c3 := k3.at (k2.at c1 hne.2.2) hne.2.2
  have o3 : Dz _ ob _ := k3.at (k2.at o1 hne.2.1) hne.2.1
  have c4 := set_oneE (v := nun c9) c3
  have l4 := k4.at l3 (fun e => hne.2.2 e.symm)
  have o4 : Dz _ ob _ := k4.at o3 hne.1
  have kk : Keep (Qb ob cb lb) W ((((W.setCell ⟨ob, i, none⟩ (.bool true)).setCell ⟨lb, 0, none⟩ (nu s)).setCell ⟨lb, 1, none⟩ (nu u)).setCell ⟨cb, 0, none⟩ (nun c9)) :=
    (((k1.weaken (fun _ _ e => .inl e)).trans k2 (fun _ _ e => .inr (.inr e))).trans k3 (fun _ _ e => .inr (.inr e))).trans k4 (fun _ _ e => .inr (.inl e))
  have a4 := ha.keep kk (fun k hk e => hd k hk e)
  exact ⟨⟨⟨_, hl.eo.cell hi⟩, hl.eo.frozen i, (link_cells x1).1, (link_cells x1).2, (link_cells l1).1, (link_cells l1).2, by simp [World.frozen?, l1], by simp [World.frozen?, l1], by rw [cell_of_row _ cb 0 _ _ _ c3]; rfl, by simp [World.frozen?, c3], by rw [cell_of_row _ cb 0 _ _ _ c4]; rfl, a4.cells.2.2.2⟩, ⟨o4, c4, l4, hne⟩, a4, kk⟩

/-- Amid the loop over what is due. -/
def Sb (R : RepXT) (w wi : World) (p : Nat) (X : Nat → Prop) (hi q0 q1 ab nb ob cb lb : Nat) (now : Int) (n : Nat) (d : Nat → Int) (F : Nat → Prop) (pre L : List En) (W : World) : Prop :=
  Lp R w wi p X hi F L W ∧ La W q0 q1 ab nb now n (dzE 0 n d) ∧ Lv2 W ob cb lb (outF pre) pre.length (lastE pre) ∧ (∀ k, Qa q0 q1 ab nb k ∨ Qb ob cb lb k → ¬ F k ∧ ¬ X k ∧ k < wi.heap.size ∧ w.heap.size ≤ k) ∧ (∀ k, Qa q0 q1 ab nb k → ¬ Qb ob cb lb k)

section
variable {R : RepXT} {w wi W W' : World} {p hi q0 q1 ab nb ob cb lb n : Nat} {X F E : Nat → Prop} {now : Int} {d : Nat → Int} {pre L : List En}

theorem Sb.keep (C : ExpiryC R) (h : Sb R w wi p X hi q0 q1 ab nb ob cb lb now n d F pre L W) (hk : Keep E W W') (h1 : ∀ k, E k → ¬ F k ∧ wi.heap.size ≤ k) : Sb R w wi p X hi q0 q1 ab nb ob cb lb now n d F pre L W' :=
  ⟨h.1.keep C hk (fun k he => ⟨(h1 k he).1, fun hx => by have := (h.1.x k hx).1; have := (h1 k he).2; omega, by have := (h1 k he).2; have := h.1.sz0; omega⟩), h.2.1.keep hk (fun k hq he => by have := (h.2.2.2.1 k (.inl hq)).2.2.1; have := (h1 k he).2; omega), h.2.2.1.keep hk (fun k hq he => by have := (h.2.2.2.1 k (.inr hq)).2.2.1; have := (h1 k he).2; omega), h.2.2.2⟩

theorem Sb.rest (C : ExpiryC R) : Rf.Rest wi.heap.size hi (Sb R w wi p X hi q0 q1 ab nb ob cb lb now n d F pre L) := fun A B hk h =>
  h.keep C hk (fun k hg => ⟨fun hf => (h.1.off k hf).2 hg, hg.1⟩)

theorem Sb.below (C : ExpiryC R) (h : Sb R w wi p X hi q0 q1 ab nb ob cb lb now n d F pre L W) (hb : Below W.heap.size W W') : Sb R w wi p X hi q0 q1 ab nb ob cb lb now n d F pre L W' := h.keep C (Keep.of_below (F := fun _ => False) hb) (fun _ e => e.elim)

theorem Sb.step (C : ExpiryC R) {now2 : Int} (h : Sb R w wi p X hi q0 q1 ab nb ob cb lb now n d F pre L W) {x : En} {c' : Kn} (hs : hi ≤ W.heap.size) (hst : StepX R p now2 (F, L) W (some x) c' W') :
    L = x :: c'.2 ∧ x.t ≤ now2 ∧ Sb R w wi p X hi q0 q1 ab nb ob cb lb now n d c'.1 pre c'.2 W' ∧ Rf.Lets X wi.heap.size hi W W' := by
  obtain ⟨e1, e2, e3, e4, e5, e6⟩ := h.1.step C hs hst
  refine ⟨e1, e2, ⟨e3, h.2.1.keep e4 (fun k hq => (h.2.2.2.1 k (.inl hq)).1), h.2.2.1.keep e4 (fun k hq => (h.2.2.2.1 k (.inr hq)).1), fun k hq => ?_, h.2.2.2.2⟩, e6⟩
  obtain ⟨g1, g2, g3, g4⟩ := h.2.2.2.1 k hq
  refine ⟨fun e => ?_, g2, g3, g4⟩
  rcases e5 k e with e | e
  · exact g1 e
  · have := h.1.sz; omega
end

end Ex
end Go.Proofs.Ythjdpfmnbmnbhaa
