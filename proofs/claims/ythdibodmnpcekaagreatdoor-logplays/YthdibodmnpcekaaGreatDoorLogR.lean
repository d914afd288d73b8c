import Derived.Test.YthdibodmnpcekaaGreatDoorLogO
import Derived.Test.YthdibodmnpcekaaGreatDoorRefK
import Derived.Test.YthdibodmnpcekaaGreatDoorLadM
import Derived.Test.YthdibodmnpcekaaGreatDoorApM
/- The document's log: New, Append, Room, Open. -/
namespace Go.Proofs.YthdibodmnpcekaaGreatDoor
set_option linter.ambiguousOpen false
open Go.RowKit
namespace Lo
open Sm Ft Dk
set_option linter.unusedSimpArgs false
set_option linter.unusedVariables false

/-- The document's disk, as a footprint. -/
def RepR (base : Nat) (w : World) (g : Nat) (F : Nat → Prop) (d : Dsk) : Prop := ∃ v, RDk w base g v d ∧ F = rfp g v ∧ base ≤ w.heap.size

theorem RepR.keep {base : Nat} {w w' : World} {g : Nat} {F G : Nat → Prop} {d : Dsk} (h : RepR base w g F d) (hk : Keep G w w') (hn : ∀ k, F k → ¬ G k) : RepR base w' g F d := by
  obtain ⟨v, h1, rfl, h3⟩ := h
  exact ⟨v, h1.keep hk hn, rfl, Nat.le_trans h3 hk.size⟩

theorem RepR.below {base : Nat} {w w' : World} {g : Nat} {F : Nat → Prop} {d : Dsk} (h : RepR base w g F d) (hb : Below w.heap.size w w') : RepR base w' g F d :=
  h.keep (Keep.of_below (F := fun _ => False) hb) (fun _ _ h => h)

theorem RepR.lt {base : Nat} {w : World} {g : Nat} {F : Nat → Prop} {d : Dsk} (h : RepR base w g F d) (k : Nat) (hk : F k) : base ≤ k ∧ k < w.heap.size := by
  obtain ⟨v, h1, rfl, h3⟩ := h
  exact h1.lt k hk

theorem RepR.num {base : Nat} {w : World} {g : Nat} {F : Nat → Prop} {d : Dsk} (h : RepR base w g F d) : w.cell? ⟨g, 0, none⟩ = some (nu d.n) ∧ g < w.heap.size := by
  obtain ⟨v, h1, rfl, h3⟩ := h
  exact ⟨h1.cells.1, (h1.lt g (.inl rfl)).2⟩

theorem goesR {w : World} {g : Nat} {v v' : Value} (h : Moves w v v') : Goes w (rfp g v) (rfp g v') := by
  intro k hk
  rcases hk with rfl | hk
  · exact .inl (.inl rfl)
  · rcases h k hk with h1 | h1
    · exact .inl (.inr h1)
    · exact .inr h1

theorem rwrite (base : Nat) (w : World) (g : Nat) (F : Nat → Prop) (d : Dsk) (i : Int) (s : List UInt8) (h : RepR base w g F d) (hl : d.tr.length ≤ 1000000) (hs : s.length ≤ maxLen) (hd : -1 ≤ d.left ∧ d.left ≤ 9223372036854775807) :
    Calls Tryz.prog 51 #[ptr g, nu i, .string (tx s)] w fun e w' => e = .returned (nu (wrN d i s)) ∧ ∃ G, RepR base w' g G (wrD d i s) ∧ Keep F w w' ∧ Goes w F G := by
  obtain ⟨v, h1, rfl, h3⟩ := h
  refine (rWrite_any d base g v i s w h1 (by omega) h3 hs (by omega)).mono ?_
  rintro e w' ⟨rfl, v', r1, r2, r3⟩
  exact ⟨rfl, _, ⟨v', r1, rfl, Nat.le_trans h3 r2.size⟩, r2, goesR r3⟩

theorem rread (base : Nat) (w : World) (g : Nat) (F : Nat → Prop) (d : Dsk) (i : Int) (h : RepR base w g F d) (hl : d.tr.length ≤ 1000000) :
    Calls Tryz.prog 53 #[ptr g, nu i] w fun e w' => e = .returned (.tuple #[.string (tx (rdT d i)), nu (rdN d i)]) ∧ w' = w := by
  obtain ⟨v, h1, rfl, h3⟩ := h
  exact rRead_any d base g v i w h1 (by omega)

theorem rcut (base : Nat) (w : World) (g : Nat) (F : Nat → Prop) (d : Dsk) (n : Int) (h : RepR base w g F d) :
    Calls Tryz.prog 21 #[ptr g, nu n] w fun e w' => (∃ u, e = .returned u) ∧ RepR base w' g F ⟨d.n, max n (-1), d.tr⟩ ∧ Keep F w w' := by
  obtain ⟨v, h1, rfl, h3⟩ := h
  refine (rCut_any d base g v n w h1).mono ?_
  rintro e w' ⟨he, r1, r2⟩
  exact ⟨he, ⟨v, r1, rfl, Nat.le_trans h3 r2.size⟩, r2⟩

/-- The document's log lies in the block q, on the disk at p. -/
@[reducible] def Ql (w : World) (q p : Nat) (l : Lg) : Prop := w.heap[q]? = some (.cells (lgV p l) 53)

theorem Ql.cells {w : World} {q p : Nat} {l : Lg} (h : Ql w q p l) : w.cell? ⟨q, 0, none⟩ = some (ptr p) ∧ w.cell? ⟨q, 1, none⟩ = some (nu l.at_) ∧ w.cell? ⟨q, 2, none⟩ = some (nu l.n) ∧ w.cell? ⟨q, 3, none⟩ = some (.int .u32 (l.ep : Int)) ∧ w.cell? ⟨q, 4, none⟩ = some (nu (l.used : Int)) ∧ w.cell? ⟨q, 5, none⟩ = some (nu (l.recs : Int)) ∧ w.cell? ⟨q, 6, none⟩ = some (.bool l.dead) ∧ ∀ i, w.frozen? ⟨q, i, none⟩ = false := by
  unfold Ql lgV at h
  simp [World.cell?, World.frozen?, h]

theorem Ql.lt {w : World} {q p : Nat} {l : Lg} (h : Ql w q p l) : q < w.heap.size := (Array.getElem?_eq_some_iff.1 h).1

theorem Ql.more {w : World} {q p : Nat} {l : Lg} (h : Ql w q p l) (m : Nat) : Ql (w.setCell ⟨q, 4, none⟩ (nu ((l.used : Int) + (m : Int)))) q p { l with used := l.used + m } ∧ Ql ((w.setCell ⟨q, 4, none⟩ (nu ((l.used : Int) + (m : Int)))).setCell ⟨q, 5, none⟩ (nu ((l.recs : Int) + 1))) q p { l with used := l.used + m, recs := l.recs + 1 } := by
  have h1 : Ql (w.setCell ⟨q, 4, none⟩ (nu ((l.used : Int) + (m : Int)))) q p { l with used := l.used + m } := heap_setCell_same _ q 4 _ _ _ h
  exact ⟨h1, heap_setCell_same _ q 5 _ _ _ h1⟩

theorem rlNew_no (base : Nat) (w : World) (p : Nat) (F : Nat → Prop) (d : Dsk) (a n : Int) (ep : Nat) (hR : RepR base w p F d) (hd : 1 ≤ d.n ∧ d.n ≤ 4096) (ha : a ≤ 9223372036854775807) (hm : may d a n = false) :
    Calls Tryz.prog 7 #[ptr p, nu a, nu n, .int .u32 (ep : Int)] w fun e w' => e = .returned (.tuple #[.pointer none, nu 1]) ∧ w' = w := by
  have q0 := hR.num.1
  have hmm : ¬ (0 ≤ a ∧ 1 ≤ n ∧ n ≤ d.n - a) := of_decide_eq_false hm
  clear hR hm
  by_cases h1 : a < 0
  · clear hmm
    go_enter Tryz.func7, Tryz.ntmps7
    go_wp2
    go_ret2
    exact ⟨rfl, rfl⟩
  by_cases h2 : n < 1
  · clear hmm
    go_enter Tryz.func7, Tryz.ntmps7
    go_wp2
    go_ret2
    exact ⟨rfl, rfl⟩
  by_cases h3 : d.n < a
  · clear hmm
    go_enter Tryz.func7, Tryz.ntmps7
    go_wp2
    go_ret2
    exact ⟨rfl, rfl⟩
  have h4 : d.n - a < n := by omega
  clear hmm
  go_enter Tryz.func7, Tryz.ntmps7
  go_wp2
  go_ret2
  exact ⟨rfl, rfl⟩

theorem rlNew_yes (base : Nat) (w : World) (p : Nat) (F : Nat → Prop) (d : Dsk) (a n : Int) (ep : Nat) (hR : RepR base w p F d) (hd : 1 ≤ d.n ∧ d.n ≤ 4096) (ha : a ≤ 9223372036854775807) (hm : may d a n = true) :
    Calls Tryz.prog 7 #[ptr p, nu a, nu n, .int .u32 (ep : Int)] w fun e w' => ∃ q, e = .returned (.tuple #[ptr q, nu 0]) ∧ Ql w' q p ⟨a, n, ep, 0, 0, false⟩ ∧ w.heap.size ≤ q ∧ Below w.heap.size w w' := by
  have q0 := hR.num.1
  obtain ⟨h1, h2, h3⟩ : 0 ≤ a ∧ 1 ≤ n ∧ n ≤ d.n - a := of_decide_eq_true hm
  clear hR hm
  have HP : Hid (Ql (w.alloc (.cells (lgV p ⟨a, n, ep, 0, 0, false⟩) 53)) w.heap.size p ⟨a, n, ep, 0, 0, false⟩) := heap_alloc_new _ _
  have HB := Hid.mk' ((Below.refl w.heap.size w).alloc (Nat.le_refl _) (.cells (lgV p ⟨a, n, ep, 0, 0, false⟩) 53))
  have h4 : ¬ d.n < a := by omega
  have h5 : ¬ d.n - a < n := by omega
  go_enter Tryz.func7, Tryz.ntmps7
  go_wp2
  go_ret2
  exact ⟨_, rfl, HP.out, Nat.le_refl _, HB.out⟩

theorem rlRoom (w : World) (q p : Nat) (l : Lg) (h : Ql w q p l) (h1 : 1 ≤ l.n ∧ l.n ≤ 4096) (h2 : (l.used : Int) ≤ l.n) :
    Calls Tryz.prog 27 #[ptr q] w fun e w' => e = .returned (nu (l.n - (l.used : Int))) ∧ Below w.heap.size w w' := by
  obtain ⟨_, _, q2, _, q4, _, _, _⟩ := h.cells
  clear h
  go_enter Tryz.func27, Tryz.ntmps27
  go_wp2_with fail
  go_quiet (fail)
  go_wp2
  go_ret
  exact ⟨rfl, dnB (Below.refl _ _) _⟩

/-- At a round of the blocks' loop. -/
structure Wq (base : Nat) (w wr : World) (p q B : Nat) (F G : Nat → Prop) (d : Dsk) (l : Lg) (rv : Value) (bs : List (List UInt8)) : Prop where
  rep : RepR base wr p G d
  keep : Keep F w wr
  goes : Goes w F G
  blk : Ql wr q p l
  row : wr.ownsRow B 9 1 rv bs.length (bs.map Nm.txt)
  offq : ¬ F q
  ql : q < w.heap.size
  fb : ∀ k, F k → k < B
  rl : ∀ k, rv.ownBlock = some k → k < w.heap.size

theorem Wq.step {base : Nat} {w wr w' : World} {p q B : Nat} {F G G' : Nat → Prop} {d d' : Dsk} {l : Lg} {rv : Value} {bs : List (List UInt8)} (h : Wq base w wr p q B F G d l rv bs) (hr : RepR base w' p G' d') (hk : Keep G wr w') (hg : Goes wr G G') : Wq base w w' p q B F G' d' l rv bs := by
  have hq : ¬ G q := fun e => by
    rcases h.goes q e with h1 | h1
    · exact h.offq h1
    · have := h.ql; omega
  refine ⟨hr, keep_goes h.keep h.goes hk, goes_trans h.goes hg h.keep.size, hk.at h.blk hq, hk.own h.row (fun k hkk e => ?_), h.offq, h.ql, h.fb, h.rl⟩
  rcases h.goes k e with h1 | h1
  · have := h.fb k h1
    have := (h.row.lt k hkk).1
    omega
  · have := h.rl k hkk
    omega

/-- What Append leaves. -/
def Lefq (base : Nat) (w w' : World) (p q : Nat) (F : Nat → Prop) (d : Dsk) (l : Lg) : Prop := ∃ G, RepR base w' p G d ∧ Ql w' q p l ∧ Keep (fun k => k = q ∨ F k) w w' ∧ Goes w F G

theorem lefq_same {base : Nat} {w w' : World} {p q : Nat} {F : Nat → Prop} {d : Dsk} {l : Lg} (hR : RepR base w p F d) (hq : Ql w q p l) (hb : Below w.heap.size w w') : Lefq base w w' p q F d l :=
  ⟨F, hR.below hb, (hb.block q hq.lt).trans hq, Keep.of_below hb, Goes.refl _ _⟩

theorem lefq_below {base : Nat} {w a b : World} {p q : Nat} {F : Nat → Prop} {d : Dsk} {l : Lg} (hb : Below w.heap.size w a) (h : Lefq base a b p q F d l) : Lefq base w b p q F d l := by
  obtain ⟨G, h1, h2, h3, h4⟩ := h
  exact ⟨G, h1, h2, (Keep.of_below hb).trans h3 (fun _ _ h => h), fun k hk => by
    rcases h4 k hk with h5 | h5
    · exact .inl h5
    · exact .inr (Nat.le_trans hb.size h5)⟩

theorem Wq.dead {base : Nat} {w wr : World} {p q B : Nat} {F G : Nat → Prop} {d : Dsk} {l : Lg} {rv : Value} {bs : List (List UInt8)} (h : Wq base w wr p q B F G d l rv bs) :
    Lefq base w (wr.setCell ⟨q, 6, none⟩ (.bool true)) p q F d { l with dead := true } := by
  have hq : ¬ G q := fun e => by
    rcases h.goes q e with h1 | h1
    · exact h.offq h1
    · have := h.ql; omega
  have hK : Keep (fun k => k = q) wr (wr.setCell ⟨q, 6, none⟩ (.bool true)) := (Keep.refl (fun k => k = q) wr).setCell (p := ⟨q, 6, none⟩) (.inl rfl) _
  exact ⟨G, h.rep.keep hK (fun k hk e => hq (e ▸ hk)), heap_setCell_same _ q 6 _ _ _ h.blk, (h.keep.weaken (fun _ _ e => .inr e)).setCell (p := ⟨q, 6, none⟩) (.inl (.inl rfl)) _, h.goes⟩

theorem Wq.done {base : Nat} {w wr : World} {p q B : Nat} {F G : Nat → Prop} {d : Dsk} {l : Lg} {rv : Value} {bs : List (List UInt8)} (h : Wq base w wr p q B F G d l rv bs) (m : Nat) :
    Lefq base w ((wr.setCell ⟨q, 4, none⟩ (nu ((l.used : Int) + (m : Int)))).setCell ⟨q, 5, none⟩ (nu ((l.recs : Int) + 1))) p q F d { l with used := l.used + m, recs := l.recs + 1 } := by
  have hq : ¬ G q := fun e => by
    rcases h.goes q e with h1 | h1
    · exact h.offq h1
    · have := h.ql; omega
  have hK : Keep (fun k => k = q) wr ((wr.setCell ⟨q, 4, none⟩ (nu ((l.used : Int) + (m : Int)))).setCell ⟨q, 5, none⟩ (nu ((l.recs : Int) + 1))) := ((Keep.refl (fun k => k = q) wr).setCell (p := ⟨q, 4, none⟩) (.inl rfl) _).setCell (p := ⟨q, 5, none⟩) (.inl rfl) _
  exact ⟨G, h.rep.keep hK (fun k hk e => hq (e ▸ hk)), (h.blk.more m).2, (h.keep.weaken (G := fun k => k = q ∨ F k) (fun _ _ e => .inr e)).trans hK (fun _ _ e => .inl e), h.goes⟩

theorem Wq.text {base : Nat} {w wr : World} {p q B : Nat} {F G : Nat → Prop} {d : Dsk} {l : Lg} {a : Option Addr} {cap : Nat} {bs : List (List UInt8)} (h : Wq base w wr p q B F G d l (.slice a bs.length cap) bs) (k : Nat) (hk : k < bs.length) : ∃ g, a = some ⟨g, 0, none⟩ ∧ wr.cell? ⟨g, k, none⟩ = some (.string (tx (bs.getD k []))) ∧ g < wr.heap.size := by
  obtain ⟨g, cap', e, _, _, _, hg⟩ := own_posB h.row (by omega)
  simp only [Value.slice.injEq, true_and] at e
  obtain ⟨rfl, rfl⟩ := e
  refine ⟨g, rfl, ?_, hg⟩
  rw [row_atB h.row k hk (by rw [List.length_map]; exact hk)]
  rw [List.getElem_map, List.getD_eq_getElem?_getD, List.getElem?_eq_getElem hk]
  rfl

theorem wq_start {base : Nat} {w w2 : World} {p q : Nat} {F : Nat → Prop} {d : Dsk} {l : Lg} {rv : Value} {bs : List (List UInt8)} (hR : RepR base w p F d) (hq : Ql w q p l) (hqF : ¬ F q) (hb : Below w.heap.size w w2) (ho : w2.ownsRow w.heap.size 9 1 rv bs.length (bs.map Nm.txt)) : Wq base w2 w2 p q w.heap.size F F d l rv bs :=
  ⟨hR.below hb, Keep.refl _ _, Goes.refl _ _, (hb.block q hq.lt).trans hq, ho, hqF, Nat.lt_of_lt_of_le hq.lt hb.size, fun k hk => (hR.lt k hk).2, fun k hk => (ho.lt k hk).2⟩

set_option maxRecDepth 100000 in
set_option maxHeartbeats 4000000 in
theorem rlAppend (base : Nat) (w : World) (p q : Nat) (F : Nat → Prop) (d : Dsk) (l : Lg) (v : Value) (x : List UInt8) (hR : RepR base w p F d) (hq : Ql w q p l) (hqF : ¬ F q) (hf : Fit l d) (ht : d.tr.length + 3 ≤ 1000000) (hr : l.recs ≤ 1000000) (hv : RdB w v x) (hz : Pk.Nz v) (hx : x.length ≤ 100000) :
    Calls Tryz.prog 24 #[ptr q, v] w fun e w' => e = .returned (nu ((app l d x).1 : Int)) ∧ Lefq base w w' p q F (app l d x).2.1 (app l d x).2.2 := by
  obtain ⟨q0, q1, q2, q3, q4, q5, q6, qf⟩ := hq.cells
  have HQ := Hid.mk' hq
  have HR := Hid.mk' hR
  have c1 := Hid.mk' (Rc.refframe l.ep v x w hf.ep hv hz (by omega))
  obtain ⟨av, cv, rfl, _⟩ := id hv
  by_cases h1 : l.dead = true
  · have hA : Hid (app l d x = (22, d, l)) := by
      show _ = _
      rw [app, if_pos h1]
    rw [h1] at q6
    clear hf hv hz hq hR
    go_enter Tryz.func24, Tryz.ntmps24
    go_wp2
    go_ret
    rw [hA.out]
    exact ⟨rfl, lefq_same HR.out HQ.out (Below.refl _ _)⟩
  have h1' : l.dead = false := by simpa using h1
  rw [h1'] at q6
  by_cases h2 : 512 < x.length
  · have hA : Hid (app l d x = (3, d, l)) := by
      show _ = _
      rw [app, if_neg h1, if_pos h2]
    rw [if_pos h2] at c1
    clear hf hv hz hq hR
    go_enter Tryz.func24, Tryz.ntmps24
    go_wp2_with fail
    refine c1.out.mono ?_
    rintro e w1 ⟨r, rfl, ho, hb⟩
    have HB := Hid.mk' hb
    clear ho hb c1
    go_wp2
    go_ret
    rw [hA.out]
    exact ⟨rfl, lefq_same HR.out HQ.out HB.out⟩
  obtain ⟨bs, hbs⟩ : ∃ bs, Rc.blocks l.ep x = bs := ⟨_, rfl⟩
  obtain ⟨m, hm⟩ : ∃ m, bs.length = m := ⟨_, rfl⟩
  have hm3 := blocks_len3 l.ep x h2
  rw [hbs, hm] at hm3
  have hshort : Hid (∀ t ∈ bs, t.length ≤ 256) := fun t ht => by
    rw [← hbs] at ht
    exact Rc.blocks_short _ _ _ ht
  have HM := Hid.mk' hm
  rw [if_neg h2, Rc.framed, if_neg h2, hbs] at c1
  have g1 := hf.n1
  have g2 := hf.us
  have g3 := hf.an
  have g4 := hf.dn
  have g5 := hf.a0
  by_cases h3 : l.n - (l.used : Int) < (m : Int)
  · have hA : Hid (app l d x = (19, d, l)) := by
      show _ = _
      rw [app, if_neg h1, if_neg h2, hbs, hm, if_pos h3]
    clear hf hv hz hq hR hbs hm
    go_enter Tryz.func24, Tryz.ntmps24
    go_wp2_with fail
    refine c1.out.mono ?_
    rintro e w1 ⟨r, rfl, ho, hb⟩
    obtain ⟨ar, cr, rfl, _⟩ := Nm.own_shape ho
    rw [HM.out] at ho ⊢
    obtain ⟨y0, y1, y2, y3, y4, y5, y6, yf⟩ := Ql.cells (l := l) (p := p) ((hb.block q HQ.out.lt).trans HQ.out)
    have HB := Hid.mk' hb
    clear ho hb c1 q0 q1 q2 q3 q4 q5 q6 qf
    go_upto_region 6 with fail
    go_quiet (fail)
    go_wp2
    go_ret
    rw [hA.out]
    exact ⟨rfl, lefq_same HR.out HQ.out (dnB HB.out _)⟩
  obtain ⟨R, hRR⟩ : ∃ R, dn (l.at_ + (l.used : Int)) bs m d = R := ⟨_, rfl⟩
  have HRR := Hid.mk' hRR
  have HA0 : Hid (app l d x = if R.1 = 0 then (0, R.2, { l with used := l.used + m, recs := l.recs + 1 }) else (22, R.2, { l with dead := true })) := by
    show _ = _
    rw [app, if_neg h1, if_neg h2, hbs, hm, if_neg h3, hRR]
  have hlo := hf.lo
  have hhi := hf.hi
  have HQF := Hid.mk' hqF
  clear hf hv hz hq hR hbs hm hRR hqF
  go_enter Tryz.func24, Tryz.ntmps24
  go_wp2_with fail
  refine c1.out.mono ?_
  rintro e w1 ⟨r, rfl, ho, hb⟩
  obtain ⟨ar, cr, rfl, _⟩ := Nm.own_shape ho
  obtain ⟨y0, y1, y2, y3, y4, y5, y6, yf⟩ := Ql.cells (l := l) (p := p) ((hb.block q HQ.out.lt).trans HQ.out)
  have HB := Hid.mk' hb
  have HO := Hid.mk' ho
  rw [HM.out]
  clear ho hb c1 q0 q1 q2 q3 q4 q5 q6 qf
  go_upto_region 6 with fail
  go_quiet (fail)
  rename_i nq
  have HW0 := Hid.mk' (wq_start HR.out HQ.out HQF.out (dnB HB.out nq) (ownB HO.out (dnB (Below.refl _ _) nq)))
  have HB2 : Hid (Below w.heap.size w (w1.drewN nq)) := dnB HB.out nq
  clear y0 y1 y2 y3 y4 y5 y6 yf HO HB
  generalize w1.drewN nq = w2 at *
  go_wp2
  go_loopw [7] (fun iv wr => ∃ (k : Nat), k ≤ m ∧ iv = nu ((k : Int) - 1) ∧ Hid (∃ G d', Wq base w2 wr p q w.heap.size F G d' l (.slice ar bs.length cr) bs ∧ dn (l.at_ + (l.used : Int)) bs k d' = R ∧ d'.n = d.n ∧ d'.tr.length + k ≤ d.tr.length + m ∧ (-1 ≤ d'.left ∧ d'.left ≤ 9223372036854775807))) (fun iv _ => (intOf iv + 1).toNat)
  case atStart => exact ⟨m, Nat.le_refl _, rfl, F, d, HW0.out, HRR.out, rfl, Nat.le_refl _, hlo, hhi⟩
  case round =>
    obtain ⟨k, hk, rfl, hrr⟩ := hrel
    obtain ⟨G, d', hw, hdn, hdd, htt, hll⟩ := hrr.out
    cases k with
    | zero =>
      rw [show (((0 : Nat) : Int) - 1) = -1 from rfl]
      have hE : R = (0, d') := hdn.symm
      rw [hE, if_pos rfl] at HA0
      obtain ⟨y0, y1, y2, y3, y4, y5, y6, yf⟩ := hw.blk.cells
      obtain ⟨z0, z1, z2, z3, z4, z5, z6, zf⟩ := (hw.blk.more m).1.cells
      simp only [Int.natCast_add] at z4
      have HL := Hid.mk' (lefq_below HB2.out (hw.done m))
      clear hrr hw hdn hE
      go_wp2
      go_ret
      rw [HA0.out]
      exact ⟨rfl, HL.out⟩
    | succ k =>
      rw [show (((k + 1 : Nat) : Int) - 1) = (k : Int) from by omega]
      have hkb : k < bs.length := by have := HM.out; omega
      obtain ⟨t, hte⟩ : ∃ t, bs.getD k [] = t := ⟨_, rfl⟩
      have htm : t.length ≤ 256 := by
        rw [← hte, List.getD_eq_getElem?_getD, List.getElem?_eq_getElem hkb]
        exact hshort.out _ (List.getElem_mem hkb)
      obtain ⟨g, rfl, hcell, hgl⟩ := hw.text k hkb
      rw [hte] at hcell
      obtain ⟨q0, q1, q2, q3, q4, q5, q6, qf⟩ := hw.blk.cells
      have hcode := wr_code (d := d') (i := l.at_ + (l.used : Int) + (k : Int)) (t := t) (by omega) htm
      have hstep : dn (l.at_ + (l.used : Int)) bs (k + 1) d' = if wrN d' (l.at_ + (l.used : Int) + (k : Int)) t = 0 then dn (l.at_ + (l.used : Int)) bs k (wrD d' (l.at_ + (l.used : Int) + (k : Int)) t) else (22, d') := by rw [dn, hte]
      have C : Hid (∀ wx, Below wr.heap.size wr wx → Calls Tryz.prog 51 #[ptr p, nu (l.at_ + (l.used : Int) + (k : Int)), .string (tx t)] wx fun e w' => e = .returned (nu (wrN d' (l.at_ + (l.used : Int) + (k : Int)) t)) ∧ (w'.cell? ⟨q, 0, none⟩ = some (ptr p) ∧ w'.cell? ⟨q, 1, none⟩ = some (nu l.at_) ∧ w'.cell? ⟨q, 4, none⟩ = some (nu (l.used : Int)) ∧ w'.cell? ⟨g, k, none⟩ = some (.string (tx t))) ∧ Hid (∃ G', Wq base w2 w' p q w.heap.size F G' (wrD d' (l.at_ + (l.used : Int) + (k : Int)) t) l (.slice (some ⟨g, 0, none⟩) bs.length cr) bs)) := fun wx hx => by
        have hwx := hw.step (hw.rep.below hx) (Keep.of_below hx) (Goes.refl _ _)
        refine (rwrite base wx p G d' _ t hwx.rep (by omega) (by unfold maxLen; omega) hll).mono ?_
        rintro e w' ⟨rfl, G', r1, r2, r3⟩
        have hw2 := hwx.step r1 r2 r3
        obtain ⟨z0, z1, z2, z3, z4, z5, z6, zf⟩ := hw2.blk.cells
        obtain ⟨g', eg, hcell', _⟩ := hw2.text k hkb
        obtain rfl : g = g' := by simpa using eg
        rw [hte] at hcell'
        exact ⟨rfl, ⟨z0, z1, z4, hcell'⟩, G', hw2⟩
      have hz1 : 0 ≤ l.at_ + (l.used : Int) ∧ l.at_ + (l.used : Int) + (k : Int) ≤ 4096 := by omega
      have hz0 : l.at_ ≤ 4096 := by omega
      have hS0 : wr.cell? ⟨q, 0, none⟩ = some (ptr p) ∧ wr.cell? ⟨q, 1, none⟩ = some (nu l.at_) ∧ wr.cell? ⟨q, 4, none⟩ = some (nu (l.used : Int)) ∧ wr.cell? ⟨g, k, none⟩ = some (.string (tx t)) := ⟨q0, q1, q4, hcell⟩
      have hDN := Hid.mk' (hdn.symm.trans hstep)
      have hDD : Hid ((wrD d' (l.at_ + (l.used : Int) + (k : Int)) t).n = d.n ∧ (wrD d' (l.at_ + (l.used : Int) + (k : Int)) t).tr.length + k ≤ d.tr.length + m ∧ (-1 ≤ (wrD d' (l.at_ + (l.used : Int) + (k : Int)) t).left ∧ (wrD d' (l.at_ + (l.used : Int) + (k : Int)) t).left ≤ 9223372036854775807)) := ⟨(wrD_n _ _ _).trans hdd, by have := wrD_tr d' (l.at_ + (l.used : Int) + (k : Int)) t; omega, wrD_left _ _ _ hll⟩
      have hD22 : Hid (wrN d' (l.at_ + (l.used : Int) + (k : Int)) t = 22 → wrD d' (l.at_ + (l.used : Int) + (k : Int)) t = d') := fun e => by unfold wrD; rw [e, if_neg (by decide)]
      have hkI : (k : Int) < (m : Int) := by omega
      have hwr : Hid (IntKind.i64.wrap (IntKind.i64.wrap (l.at_ + (l.used : Int)) + (k : Int)) = l.at_ + (l.used : Int) + (k : Int)) := by
        show _ = _
        rw [show IntKind.i64.wrap (l.at_ + (l.used : Int)) = l.at_ + (l.used : Int) by rw [IntKind.wrap_i64]; omega, IntKind.wrap_i64]
        omega
      rw [HM.out] at C
      rw [HM.out]
      clear hrr hw hdn hstep hdd htt hte qf hkb hll q2 q3 q5 q6
      generalize hX : wrD d' (l.at_ + (l.used : Int) + (k : Int)) t = D at *
      generalize hY : wrN d' (l.at_ + (l.used : Int) + (k : Int)) t = N at *
      clear hX hY
      generalize tx t = f at *
      rcases hcode with rfl | rfl
      · rw [if_pos rfl] at hDN
        go_upto_region 11 with fail
        go_wp2_with fail
        go_region_held3 (fun w' => w'.cell? ⟨q, 0, none⟩ = some (ptr p) ∧ w'.cell? ⟨q, 1, none⟩ = some (nu l.at_) ∧ w'.cell? ⟨q, 4, none⟩ = some (nu (l.used : Int)) ∧ w'.cell? ⟨g, k, none⟩ = some (.string f)) (first | assumption | exact hS0 | go_keep) (first | (go_at_call 51; rw [hwr.out]; with_reducible refine (C.out _ ?hb).mono ?_; (case hb => (first | exact Below.refl _ _ | exact (Below.refl _ _).drew | fail)); rintro e w5 ⟨rfl, hS5, hW5⟩) | fail)
        clear hS0 hS5 C hcell q0 q1 q4
        go_wp2
        go_roundw
        case rel => exact ⟨k, by omega, rfl, by obtain ⟨G', hW'⟩ := hW5.out; exact ⟨G', D, hW', hDN.out.symm, hDD.out.1, hDD.out.2.1, hDD.out.2.2⟩⟩
        case measure => simp [intOf]
      · rw [if_neg (by decide)] at hDN
        go_upto_region 11 with fail
        go_wp2_with fail
        go_region_held3 (fun w' => w'.cell? ⟨q, 0, none⟩ = some (ptr p) ∧ w'.cell? ⟨q, 1, none⟩ = some (nu l.at_) ∧ w'.cell? ⟨q, 4, none⟩ = some (nu (l.used : Int)) ∧ w'.cell? ⟨g, k, none⟩ = some (.string f)) (first | assumption | exact hS0 | go_keep) (first | (go_at_call 51; rw [hwr.out]; with_reducible refine (C.out _ ?hb).mono ?_; (case hb => (first | exact Below.refl _ _ | exact (Below.refl _ _).drew | fail)); rintro e w5 ⟨rfl, hS5, hW5⟩) | fail)
        obtain ⟨G', hW'⟩ := hW5.out
        rw [hDN.out, if_neg (by simp)] at HA0
        obtain ⟨z0, z1, z2, z3, z4, z5, z6, zf⟩ := hW'.blk.cells
        have HL := Hid.mk' (lefq_below HB2.out hW'.dead)
        clear hS0 hS5 C hcell q0 q1 q4 hW' hW5
        go_wp2
        go_ret
        rw [HA0.out]
        refine ⟨rfl, ?_⟩
        have := HL.out
        rw [hD22.out (by trivial)] at this
        exact this

end Lo
end Go.Proofs.YthdibodmnpcekaaGreatDoor
