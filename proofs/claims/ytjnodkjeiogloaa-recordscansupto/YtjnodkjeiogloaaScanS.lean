/- What RecordScans holds side by side: the lists that were handed out, the iterator's own, the marks of loops. -/
import Derived.Test.YtjnodkjeiogloaaPrgW
import Derived.Test.YtjnodkjeiogloaaApartY
import Derived.Test.YtjnodkjeiogloaaSmeR
namespace Go.Proofs.Ytjnodkjeiogloaa
set_option linter.ambiguousOpen false
open Go.RowKit
namespace Rc
open Sm Pk Ft
set_option linter.unusedSimpArgs false
set_option linter.unusedVariables false
attribute [local go_sem] Oper.semAt_some

/-- A value's block lies ahead of lo, or from hi on. -/
def Out (lo hi : Nat) (v : Value) : Prop := ∀ b, v.ownBlock = some b → b < lo ∨ hi ≤ b

/-- The lists alone, ahead of the iterator. -/
structure Pt (W WK : World) (M B : Nat) (v : Value) (us : List Value) (qs : List (List UInt8)) : Prop where
  bel : Below WK.heap.size WK W
  box : Boxed W B 25 v
  row : W.ownsRow WK.heap.size 32 1 v us.length us
  pays : Rows W M us qs

theorem Pt.below {W W' WK : World} {M B : Nat} {v : Value} {us : List Value} {qs : List (List UInt8)} (h : Pt W WK M B v us qs) (hb : Below W.heap.size W W') : Pt W' WK M B v us qs :=
  ⟨h.bel.trans (hb.mono h.bel.size), (hb.block _ h.box.lt).trans h.box, own_keptB h.row hb, h.pays.below hb⟩

/-- A payload that lay there is laid into the lists. -/
theorem Pt.push {W WK w1 : World} {M B H : Nat} {v u v' : Value} {us : List Value} {p : List UInt8} {qs : List (List UInt8)} (h : Pt W WK M B v us qs) (hu : Rows W M (us ++ [u]) (qs ++ [p])) (hKB : WK.heap.size ≤ B)
    (ho : w1.ownsRow WK.heap.size 32 1 v' (us.length + 1) (us ++ [u])) (hg : W.grownBy w1 v.ownBlock) : Boxed w1 B 25 v ∧ Pt (w1.setCell ⟨B, 0, none⟩ v') WK M B v' (us ++ [u]) (qs ++ [p]) := by
  have hbx1 : Boxed w1 B 25 v := h.box.kept hg (h.box.not_row (by decide) h.row)
  have hr1 : Rows w1 M (us ++ [u]) (qs ++ [p]) := hu.kept hg (fun y hy => by
    obtain ⟨q, hq⟩ := hu.at_ hy
    exact sep_keptR (own_sep h.row hq (by decide)))
  have hbl1 : Below WK.heap.size WK w1 := h.bel.grown hg h.bel.size (fun r e => (h.row.lt r e).1)
  have hs := grownBy_setCell' w1 B v'
  have nr : ∀ {base : Nat} {e : TypeId} {s n : Nat} {x : Value} {xs : List Value}, w1.ownsRow base e s x n xs → 25 ≠ e → x.ownBlock = none ∨ x.ownBlock ≠ some B := fun ho' hte => by
    have := hbx1.not_row hte ho'
    cases hx : (_ : Value).ownBlock with
    | none => exact .inl rfl
    | some b => exact .inr (fun e => this (by rw [hx]; exact e.symm))
  refine ⟨hbx1, ⟨hbl1.setCell (p := ⟨B, 0, none⟩) hKB v', hbx1.set v', ?_, hr1.kept hs (fun y hy => ?_)⟩⟩
  · rw [List.length_append]
    exact ho.kept hs (nr ho (by decide))
  · obtain ⟨q, hq⟩ := hr1.at_ hy
    exact nr hq (by decide)

/-- The first of some rows. -/
theorem Rows.take {w : World} {base : Nat} {vs : List Value} {ps : List (List UInt8)} (h : Rows w base vs ps) (i : Nat) : Rows w base (vs.take i) (ps.take i) := by
  refine ⟨by rw [List.length_take, List.length_take, h.len], fun k v p hv hp => ?_, fun j k u v hne hu hv => ?_⟩
  · rw [List.getElem?_take] at hv hp
    split at hv
    · rw [if_pos (by assumption)] at hp
      exact h.own k v p hv hp
    · cases hv
  · rw [List.getElem?_take] at hu hv
    split at hu
    · split at hv
      · exact h.apart j k u v hne hu hv
      · cases hv
    · cases hu

/-- The state. -/
structure St (W WK : World) (M B ep : Nat) (ls : List (List UInt8)) (Be Bl : Nat) (cv : Value) (Ds : List Nat) (v : Value) (us : List Value) (qs : List (List UInt8)) : Prop where
  bel : Below WK.heap.size WK W
  box : Boxed W B 25 v
  row : W.ownsRow WK.heap.size 32 1 v us.length us
  pays : Rows W M us qs
  seq : Pr.Base3 W ep ls Be Bl cv
  cvr : W.ownsRow WK.heap.size 9 1 cv ls.length (ls.map Nm.txt)
  op : Rf.Open WK.heap.size Ds W

section
variable {W W' WK : World} {M B ep : Nat} {ls : List (List UInt8)} {Be Bl : Nat} {cv : Value} {Ds : List Nat} {v : Value} {us : List Value} {qs : List (List UInt8)}

theorem St.below (h : St W WK M B ep ls Be Bl cv Ds v us qs) (hb : Below W.heap.size W W') : St W' WK M B ep ls Be Bl cv Ds v us qs :=
  ⟨h.bel.trans (hb.mono h.bel.size), (hb.block _ h.box.lt).trans h.box, own_keptB h.row hb, h.pays.below hb, h.seq.below hb, own_keptB h.cvr hb, h.op.below hb (Nat.le_refl _)⟩

/-- All that it speaks of lies ahead of the heap's end. -/
theorem St.outs (h : St W WK M B ep ls Be Bl cv Ds v us qs) (hi : Nat) : Out W.heap.size hi v ∧ ∀ u ∈ us, Out W.heap.size hi u := by
  refine ⟨fun b hb => .inl (h.row.lt b hb).2, fun u hu b hb => .inl ?_⟩
  obtain ⟨p, hp⟩ := h.pays.at_ hu
  exact (hp.lt b hb).2

theorem own_ne {base : Nat} {e : TypeId} {s n : Nat} {x : Value} {xs : List Value} {row : Option Nat} (h : W.ownsRow base e s x n xs) (hr : ∀ b, x.ownBlock = some b → row ≠ some b) : x.ownBlock = none ∨ x.ownBlock ≠ row := by
  cases hx : x.ownBlock with
  | none => exact .inl rfl
  | some b => exact .inr (fun e => hr b hx e.symm)

/-- One block turns: none that it speaks of. -/
theorem St.grown {row : Option Nat} (h : St W WK M B ep ls Be Bl cv Ds v us qs) (hg : W.grownBy W' row) (hK : ∀ r, row = some r → WK.heap.size ≤ r) (hB : row ≠ some B) (he : row ≠ some Be) (hl : row ≠ some Bl) (hc : ∀ b, cv.ownBlock = some b → row ≠ some b) (hD : ∀ D ∈ Ds, row ≠ some D)
    (hv : ∀ b, v.ownBlock = some b → row ≠ some b) (hu : ∀ u ∈ us, ∀ b, u.ownBlock = some b → row ≠ some b) : St W' WK M B ep ls Be Bl cv Ds v us qs := by
  have hcv := h.cvr.kept hg (own_ne h.cvr hc)
  refine ⟨h.bel.grown hg h.bel.size hK, h.box.kept hg (Ne.symm hB), h.row.kept hg (own_ne h.row hv), h.pays.kept hg (fun u hu' => ?_), ⟨h.seq.e.kept hg (Ne.symm he), h.seq.l.kept hg (Ne.symm hl), Nm.rd_own hcv⟩, hcv, h.op.kept (fun D hD' => hg.block D (h.op.lt D hD') (fun e => hD D hD' e.symm))⟩
  obtain ⟨p, hp⟩ := h.pays.at_ hu'
  exact own_ne hp (hu u hu')

theorem away_own {lo hi : Nat} {base : Nat} {e : TypeId} {s n : Nat} {x : Value} {xs : List Value} {row : Option Nat} (h : W.ownsRow base e s x n xs) (ho : Out lo hi x) (hr : Rf.Away lo hi W row) : ∀ b, x.ownBlock = some b → row ≠ some b := fun b hb e => by
  obtain ⟨h1, h2⟩ := hr b e
  rcases ho b hb with q | q
  · omega
  · rcases h2 with h2 | ⟨o, ho', hc⟩
    · omega
    · rcases h.2 with ⟨rfl, _⟩ | ⟨g, cap, cur, rfl, _, hg, _⟩
      · simp [Value.ownBlock] at hb
      · obtain rfl : g = b := by simpa [Value.ownBlock] using hb
        rw [hg] at ho'
        cases ho'
        cases hc

theorem St.rest {lo hi : Nat} {row : Option Nat} (h : St W WK M B ep ls Be Bl cv Ds v us qs) (hov : Out lo hi v) (hou : ∀ u ∈ us, Out lo hi u) (hlo : WK.heap.size ≤ lo) (hB : B < lo) (he : Be < lo) (hl : Bl < lo) (hc : ∀ b, cv.ownBlock = some b → b < lo) (hD : ∀ D ∈ Ds, D < lo) (hg : W.grownBy W' row) (hr : Rf.Away lo hi W row) : St W' WK M B ep ls Be Bl cv Ds v us qs := by
  have ne : ∀ b, b < lo → row ≠ some b := fun b hb e => by have := (hr b e).1; omega
  refine h.grown hg (fun r e => by have := (hr r e).1; omega) (ne _ hB) (ne _ he) (ne _ hl) (fun b hb => ne _ (hc b hb)) (fun D hD' => ne _ (hD D hD')) (away_own h.row hov hr) (fun u hu => ?_)
  obtain ⟨p, hp⟩ := h.pays.at_ hu
  exact away_own hp (hou u hu) hr

/-- A box of another thing is set. -/
theorem St.set {b : Nat} {t : TypeId} {x : Value} (h : St W WK M B ep ls Be Bl cv Ds v us qs) (hb : Boxed W b t x) (y : Value) (hK : WK.heap.size ≤ b) (hB : b ≠ B) (he : b ≠ Be) (hl : b ≠ Bl) (t1 : t ≠ 9) (t2 : t ≠ 32) (t3 : t ≠ 5) : St (W.setCell ⟨b, 0, none⟩ y) WK M B ep ls Be Bl cv Ds v us qs := by
  have ow : ∀ {base : Nat} {e : TypeId} {s n : Nat} {x : Value} {xs : List Value}, W.ownsRow base e s x n xs → t ≠ e → ∀ c, x.ownBlock = some c → some b ≠ some c := fun ho hte c hc e => by
    have := hb.not_row hte ho
    rw [hc] at this
    exact this e
  refine h.grown (grownBy_setCell' W b y) (fun r e => by cases e; exact hK) (by simpa using hB) (by simpa using he) (by simpa using hl) (ow h.cvr t1) (fun D hD e => ?_) (ow h.row t2) (fun u hu => ?_)
  · cases e
    have h1 := (h.op.2 b hD).2
    rw [show W.heap[b]? = _ from hb] at h1
    cases h1
  · obtain ⟨p, hp⟩ := h.pays.at_ hu
    exact ow hp t3

theorem wpListIn_append_at {F : Fence} {m' : Nat} {ops : Array Oper} {rest : List Oper} {o : Oper} {a : Act} {Q : Exit → Act → World → Prop} (hg : o.guard = none) (s x : Operand) (hop : o.op = Op.call { callee := Callee.builtin Builtin.append, args := #[s, x], argTypes := #[25, 25] })
    (base : Nat) (i : TypeInfo) (h2 : Try.prog.info? 32 = some i) (h3 : i.zero = some (.slice none 0 0)) (h4 : i.size = 1) (h5 : i.bytes = 24) (v u : Value) (k : Nat) (xs : List Value) (hs : a.eval s = v) (hown : W.ownsRow base 32 1 v k xs) (H : Nat) (hx : a.eval x = .slice (some ⟨H, 0, none⟩) 1 1)
    (hc : ∀ j y, [u][j]? = some y → W.cell? ((⟨H, 0, none⟩ : Addr).add j) = some y) (hu : u.oneCell' = true) (b1 : k + 1 ≤ maxLen) (b2 : (k + 1) * 24 ≤ 140737488355328) (b3 : base ≤ W.heap.size)
    (hK : ∀ v' w', w'.ownsRow base 32 1 v' (k + 1) (xs ++ [u]) → W.grownBy w' v.ownBlock → (v'.ownBlock = v.ownBlock ∨ v'.ownBlock = some W.heap.size) → wpListIn F m' Try.prog ops Q rest (a.put o.dst v') w') :
    wpListIn F m' Try.prog ops Q (o :: rest) a W := by
  refine wpListIn_plain hg fun K hK' => ?_
  obtain ⟨v', w', hrun, r1, r2, _, r4⟩ := run_append_own_at (P := Try.prog) W base 25 o.type 32 i (.slice none 0 0) 1 24 Try.underlying25 h2 h3 h4 h5 rfl (by decide) v k xs hown ⟨H, 0, none⟩ 1 1 [u] rfl hc (fun y hy => by simp at hy; subst hy; exact hu) b1 b2 b3
  unfold Oper.wpIn
  refine ⟨?_, ?_⟩
  · simp [Oper.about, hop, resolve, Target.leads, Sem.run_pure]
  · rw [Oper.semAt_plain F _ _ (by rw [hop]; intro c hc'; cases hc')]
    simp [execOp, hop, resolve, invoke, builtin, hs, hx, hrun, Result.andThen]
    exact hK' _ _ (hK v' w' r1 r2 r4)

/-- A payload more is laid into the lists. -/
theorem St.push {w1 : World} {u v' : Value} {p : List UInt8} {H : Nat} {tmp : Obj} (h : St W WK M B ep ls Be Bl cv Ds v us qs) (hu : W.ownsRow H 5 1 u p.length (p.map by1)) (hlt : ∀ y ∈ us, ∀ b, y.ownBlock = some b → b < H) (hMH : M ≤ H) (hKB : WK.heap.size ≤ B) (hBe : B ≠ Be) (hBl : B ≠ Bl)
    (ho : w1.ownsRow WK.heap.size 32 1 v' (us.length + 1) (us ++ [u])) (hg : (W.alloc tmp).grownBy w1 v.ownBlock) (hp : v'.ownBlock = v.ownBlock ∨ v'.ownBlock = some (W.alloc tmp).heap.size) :
    Boxed w1 B 25 v ∧ St (w1.setCell ⟨B, 0, none⟩ v') WK M B ep ls Be Bl cv Ds v' (us ++ [u]) (qs ++ [p]) := by
  have hb0 : Below W.heap.size W (W.alloc tmp) := (Below.refl _ _).alloc (Nat.le_refl _) _
  have h0 := h.below hb0
  have hu0 := own_keptB hu hb0
  have hr0 : Rows (W.alloc tmp) M (us ++ [u]) (qs ++ [p]) := h0.pays.snoc hu0 hMH hlt
  have hbx1 : Boxed w1 B 25 v := h0.box.kept hg (h0.box.not_row (by decide) h0.row)
  have hcv1 : w1.ownsRow WK.heap.size 9 1 cv ls.length (ls.map Nm.txt) := h0.cvr.kept hg (sep_keptR (own_sep h0.row h0.cvr (by decide)))
  have hr1 : Rows w1 M (us ++ [u]) (qs ++ [p]) := hr0.kept hg (fun y hy => by
    obtain ⟨q, hq⟩ := hr0.at_ hy
    exact sep_keptR (own_sep h0.row hq (by decide)))
  have nb : ∀ {b : Nat} {t : TypeId} {x : Value}, Boxed (W.alloc tmp) b t x → t ≠ 32 → some b ≠ v.ownBlock := fun hb ht => hb.not_row ht h0.row
  have he1 := h0.seq.e.kept hg (nb h0.seq.e (by decide))
  have hl1 := h0.seq.l.kept hg (nb h0.seq.l (by decide))
  have hop1 : Rf.Open WK.heap.size Ds w1 := h0.op.kept (fun D hD => hg.block D (h0.op.lt D hD) (fun e => by
    rcases h0.row.2 with ⟨rfl, _⟩ | ⟨g, cap, cur, rfl, _, hgb, _⟩
    · simp [Value.ownBlock] at e
    · obtain rfl : D = g := by simpa [Value.ownBlock] using e
      have h1 := (h0.op.2 D hD).2
      rw [hgb] at h1
      cases h1))
  have hbl1 : Below WK.heap.size WK w1 := h0.bel.grown hg h0.bel.size (fun r e => (h0.row.lt r e).1)
  have hs := grownBy_setCell' w1 B v'
  have nr : ∀ {base : Nat} {e : TypeId} {s n : Nat} {x : Value} {xs : List Value}, w1.ownsRow base e s x n xs → 25 ≠ e → x.ownBlock = none ∨ x.ownBlock ≠ some B := fun ho' hte => by
    have := hbx1.not_row hte ho'
    cases hx : (_ : Value).ownBlock with
    | none => exact .inl rfl
    | some b => exact .inr (fun e => this (by rw [hx]; exact e.symm))
  refine ⟨hbx1, ⟨hbl1.setCell (p := ⟨B, 0, none⟩) hKB v', hbx1.set v', ?_, hr1.kept hs (fun y hy => ?_), ⟨he1.other (Ne.symm hBe) v', hl1.other (Ne.symm hBl) v', ?_⟩, hcv1.kept hs (nr hcv1 (by decide)), hop1.kept (fun D hD => ?_)⟩⟩
  · rw [List.length_append]
    exact ho.kept hs (nr ho (by decide))
  · obtain ⟨q, hq⟩ := hr1.at_ hy
    exact nr hq (by decide)
  · exact Nm.rd_own (hcv1.kept hs (nr hcv1 (by decide)))
  · refine hs.block D (hop1.lt D hD) (fun e => ?_)
    cases e
    have h1 := (hop1.2 B hD).2
    rw [show w1.heap[B]? = _ from hbx1] at h1
    cases h1

/-- What such a step leaves to an iterator. -/
theorem St.leaves {w1 : World} {u v' : Value} {lo hi : Nat} {tmp : Obj} {X : Nat → Prop} (h : St W WK M B ep ls Be Bl cv Ds v us qs) (hov : Out lo hi v) (hB : B < lo) (hX : ∀ b, X b → b < lo) (hXB : ¬ X B) (hXv : ∀ b, v.ownBlock = some b → ¬ X b) (hg : (W.alloc tmp).grownBy w1 v.ownBlock) : Rf.Leaves X lo hi W (w1.setCell ⟨B, 0, none⟩ v') := by
  have hb0 : Below W.heap.size W (W.alloc tmp) := (Below.refl _ _).alloc (Nat.le_refl _) _
  refine ((Rf.Leaves.alloc X lo hi W tmp).trans (Rf.Leaves.grown hg fun r e => ?_)).trans (Rf.Leaves.grown (grownBy_setCell' w1 B v') fun r e => ?_)
  · refine ⟨hXv r e, ?_⟩
    rcases hov r e with q | q
    · exact .inl q
    · right
      rcases (own_keptB h.row hb0).2 with ⟨rfl, _⟩ | ⟨g, cap, cur, rfl, _, hgb, _⟩
      · simp [Value.ownBlock] at e
      · obtain rfl : g = r := by simpa [Value.ownBlock] using e
        exact ⟨q, _, hgb, rfl⟩
  · cases e
    exact ⟨hXB, .inl hB⟩
/-- A round of the loop over All: the payload is laid into the lists, and the count goes on. -/
theorem St.round {W0 W9 w1 : World} {u v' x17 : Value} {p : List UInt8} {lo hi b17 : Nat} {tmp : Obj} {X : Nat → Prop} (h0 : St W0 WK M B ep ls Be Bl cv Ds v us qs) (hb : Below W0.heap.size W0 W9) (hu : W9.ownsRow W0.heap.size 5 1 u p.length (p.map by1)) (hov : Out lo hi v) (hou : ∀ y ∈ us, Out lo hi y) (hlh : lo ≤ hi) (hhi : hi ≤ W0.heap.size) (hM : M ≤ WK.heap.size) (hKB : WK.heap.size ≤ B) (hBe : B ≠ Be) (hBl : B ≠ Bl) (hB : B < lo)
    (hI : Boxed W9 b17 3 x17) (k1 : WK.heap.size ≤ b17) (k2 : b17 < lo) (k3 : b17 ≠ B) (k4 : b17 ≠ Be) (k5 : b17 ≠ Bl) (hX : ∀ b, X b → b < lo) (hXB : ¬ X B) (hX17 : ¬ X b17) (hXv : ∀ b, v.ownBlock = some b → ¬ X b) (y : Value)
    (ho : w1.ownsRow WK.heap.size 32 1 v' (us.length + 1) (us ++ [u])) (hg : (W9.alloc tmp).grownBy w1 v.ownBlock) (hp : v'.ownBlock = v.ownBlock ∨ v'.ownBlock = some (W9.alloc tmp).heap.size) :
    Boxed w1 B 25 v ∧ Boxed (w1.setCell ⟨B, 0, none⟩ v') b17 3 x17 ∧ St ((w1.setCell ⟨B, 0, none⟩ v').setCell ⟨b17, 0, none⟩ y) WK M B ep ls Be Bl cv Ds v' (us ++ [u]) (qs ++ [p]) ∧ Rf.Leaves X lo hi W9 ((w1.setCell ⟨B, 0, none⟩ v').setCell ⟨b17, 0, none⟩ y) ∧ Out lo hi v' ∧ (∀ z ∈ us ++ [u], Out lo hi z) ∧ Boxed ((w1.setCell ⟨B, 0, none⟩ v').setCell ⟨b17, 0, none⟩ y) b17 3 y := by
  have h9 := h0.below hb
  have hlt : ∀ z ∈ us, ∀ b, z.ownBlock = some b → b < W0.heap.size := fun z hz b hzb => by
    obtain ⟨q, hq⟩ := h0.pays.at_ hz
    exact (hq.lt b hzb).2
  have hs0 := h0.bel.size
  obtain ⟨hbx, hS⟩ := h9.push (tmp := tmp) hu hlt (by omega) hKB hBe hBl ho hg hp
  have hb0 : Below W9.heap.size W9 (W9.alloc tmp) := (Below.refl _ _).alloc (Nat.le_refl _) _
  have hI1 : Boxed w1 b17 3 x17 := (hI.alloc tmp).kept hg ((hI.alloc tmp).not_row (by decide) (own_keptB h9.row hb0))
  have hI2 := hI1.other (B' := B) k3 v'
  refine ⟨hbx, hI2, hS.set hI2 y k1 k3 k4 k5 (by decide) (by decide) (by decide), ?_, ?_, ?_, hI2.set y⟩
  · refine (h9.leaves (tmp := tmp) (v' := v') (u := u) hov hB hX hXB hXv hg).trans (Rf.Leaves.grown (grownBy_setCell' _ _ _) (fun r e => ?_))
    cases e
    exact ⟨hX17, .inl k2⟩
  · intro b hb'
    rcases hp with hp | hp
    · rw [hp] at hb'
      exact hov b hb'
    · rw [hp] at hb'
      right
      have e : (W9.alloc tmp).heap.size = b := by simpa using hb'
      have := hb.size
      rw [← e]
      simp
      omega
  · intro z hz
    rcases List.mem_append.1 hz with hz | hz
    · exact hou z hz
    · simp at hz
      subst hz
      intro b hzb
      have := (hu.lt b hzb).1
      right
      omega
/-- The lists' own row is none of what the iterator leans on. -/
theorem St.xv (h : St W WK M B ep ls Be Bl cv Ds v us qs) : ∀ b, v.ownBlock = some b → ¬ (b = Be ∨ b = Bl ∨ cv.ownBlock = some b) := fun b hb q => by
  rcases q with rfl | rfl | q
  · exact h.seq.e.not_row (by decide) h.row hb.symm
  · exact h.seq.l.not_row (by decide) h.row hb.symm
  · exact own_sep h.row h.cvr (by decide) b hb q
end

theorem pre_at {α : Type} {pre L : List α} {x : α} (h : pre ++ [x] <+: L) : L[pre.length]? = some x := by
  obtain ⟨r, rfl⟩ := h
  simp

/-- What was wanted, at an index. -/
theorem rdl_at {W : World} {a : Option Addr} {n cap : Nat} {L : List (List UInt8)} (h : RdL W (.slice a n cap) L) (j : Nat) (p : List UInt8) (hj : L[j]? = some p) : ∃ g o ua uc, a = some ⟨g, o, none⟩ ∧ g < W.heap.size ∧ W.cell? ⟨g, o + j, none⟩ = some (.slice ua p.length uc) ∧ RdB W (.slice ua p.length uc) p ∧ L.length = n ∧ n ≤ cap := by
  obtain ⟨a', cap', e, h1, h2, h3⟩ := h
  obtain ⟨rfl, rfl, rfl⟩ : a = a' ∧ n = L.length ∧ cap = cap' := by simpa using e
  have hlt : j < L.length := (List.getElem?_eq_some_iff.1 hj).1
  obtain ⟨g, o, rfl, hg, hy⟩ := h3 (by omega)
  obtain ⟨u, f1, f2, f3⟩ := hy j p hj
  obtain ⟨ua, uc, rfl, _⟩ := id f2
  exact ⟨g, o, ua, uc, rfl, hg, f1, f2, rfl, h1⟩

/-- The lists, handed to ApartBytes. -/
theorem St.lists {W WK : World} {M B ep : Nat} {ls : List (List UInt8)} {Be Bl : Nat} {cv : Value} {Ds : List Nat} {L n cap : Nat} {us : List Value} {qs : List (List UInt8)} (h : St W WK M B ep ls Be Bl cv Ds (.slice (some ⟨L, 0, none⟩) n cap) us qs) (hn : us.length = n) (hM : M ≤ W.heap.size) : LsR W M L us (fun l => (qs.getD l []).length) (fun l => (qs.getD l []).map by1) ∧ ApartR L us := by
  have hrow := h.row
  rw [hn] at hrow
  refine ⟨⟨fun l hl => ?_, fun l hl => ?_, ?_, hM⟩, ⟨fun l m hl hm hne => h.pays.apart l m _ _ hne (List.getElem?_eq_getElem hl) (List.getElem?_eq_getElem hm), fun l hl e => ?_⟩⟩
  · have hq : qs[l]? = some (qs[l]'(by rw [← h.pays.len]; exact hl)) := List.getElem?_eq_getElem _
    have := h.pays.own l us[l] _ (List.getElem?_eq_getElem hl) hq
    simp only [List.getD_eq_getElem?_getD, hq, Option.getD_some]
    exact this
  · have := hrow.cells (g := L) rfl l us[l] (List.getElem?_eq_getElem hl)
    rw [Addr.add_lit, Nat.zero_add] at this
    exact this
  · exact (hrow.lt L rfl).2
  · obtain ⟨p, hp⟩ := h.pays.at_ (List.getElem_mem hl)
    exact own_sep hrow hp (by decide) L rfl e
end Rc
end Go.Proofs.Ytjnodkjeiogloaa
