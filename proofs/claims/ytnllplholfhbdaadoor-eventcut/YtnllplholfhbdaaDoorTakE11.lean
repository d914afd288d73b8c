import Derived.Test.YtnllplholfhbdaaDoorTolE11
/- What the program takes: numbers, names, a session, a happening. -/
namespace Go.Proofs.YtnllplholfhbdaaDoor
set_option linter.ambiguousOpen false
open Go.RowKit
namespace Ev
namespace Pe
open Pk Sm Ft
open Pk.Pp (RW RR)
set_option linter.unusedSimpArgs false
set_option linter.unusedVariables false

/-- A taking of the program: its own block, the reader's; what is left, and the error. -/
structure Tg (w : World) (q : Nat) (F : Nat → Prop) (s : List UInt8 × Nat) (p : Nat) : Prop where
  blk : w.heap[q]? = some (.cells #[ptr p, errE s.2] 81)
  rd : RR w p F s.1
  nF : ¬ F q

theorem Tg.keep {w w' : World} {q p : Nat} {F G : Nat → Prop} {s : List UInt8 × Nat} (h : Tg w q F s p) (hk : Keep G w w') (hq : ¬ G q) (hF : ∀ k, F k → ¬ G k) : Tg w' q F s p :=
  ⟨hk.at h.blk hq, Pk.Pp.keepR h.rd hk hF, h.nF⟩

theorem Tg.lt {w : World} {q p : Nat} {F : Nat → Prop} {s : List UInt8 × Nat} (h : Tg w q F s p) : q < w.heap.size := (Array.getElem?_eq_some_iff.1 h.blk).1

theorem wrap_asI (n : Nat) (h : n < 18446744073709551616) : wrap64 (n : Int) = asI n := by
  unfold wrap64 asI
  split <;> omega

/-- The error is put beside the reader. -/
theorem Tg.err {w : World} {q p : Nat} {F' : Nat → Prop} {s : List UInt8 × Nat} (l : List UInt8) (no : Nat) (h : w.heap[q]? = some (.cells #[ptr p, errE s.2] 81)) (hr : RR w p F' l) (hn : ¬ F' q) : Tg (w.setCell ⟨q, 1, none⟩ (errE no)) q F' (l, no) p := by
  have hB := heap_setCell_same _ q 1 _ _ (errE no) h
  have hK : Keep (fun k => k = q) w (w.setCell ⟨q, 1, none⟩ (errE no)) := (Keep.refl (fun k => k = q) w).setCell (p := ⟨q, 1, none⟩) (.inl rfl) _
  exact ⟨hB, Pk.Pp.keepR hr hK (fun k hk e => hn (e ▸ hk)), hn⟩

set_option maxRecDepth 100000 in
set_option maxHeartbeats 4000000 in
theorem tnumber (w : World) (q : Nat) (F : Nat → Prop) (s : List UInt8 × Nat) (p : Nat) (h : Tg w q F s p) : Calls Tryd.prog 61 #[ptr q] w fun e w' => e = .returned (u6 (N s)) ∧ ∃ F', Tg w' q F' (M s) p ∧ Keep (fun k => F k ∨ k = q) w w' ∧ Goes w F F' := by
  obtain ⟨l, no⟩ := s
  cases no with
  | zero =>
    have hq0 := cell_at (j := 0) h.blk rfl
    have hq1 : w.cell? ⟨q, 1, none⟩ = some .nilIface := cell_at (j := 1) h.blk rfl
    have HT := Hid.mk' h
    have hok := num_ok l
    have C := Hid.mk' (Pk.Pp.rnum_rw w p F l h.rd)
    obtain ⟨x, n, no, hx⟩ : ∃ x n no, Pk.num l = (x, n, no) := ⟨_, _, _, rfl⟩
    rw [hx] at C hok
    simp only at hok
    obtain ⟨hok1, hok2⟩ := hok
    rw [hok1, hok2]
    clear h hx hok1 hok2
    cases no with
    | zero =>
      have C2 : Hid (Calls Tryd.prog 63 #[ptr p] w fun e w' => e = .returned (.tuple #[u6 x, .nilIface]) ∧ ∃ F', RR w' p F' (l.drop n) ∧ Keep F w w' ∧ Goes w F F') := C.out
      clear C
      go_enter Tryd.func61, Tryd.ntmps61
      go_wp2_with fail
      refine C2.out.mono ?_
      rintro e w1 ⟨rfl, F', hr, hk, hm⟩
      have hB1 := hk.at HT.out.blk HT.out.nF
      have hnF : ¬ F' q := fun hf => by
        rcases hm q hf with h1 | h1
        · exact HT.out.nF h1
        · have := HT.out.lt
          omega
      have hE := Tg.err (l.drop n) 0 hB1 hr hnF
      have HE := Hid.mk' hE
      have HK : Hid (Keep (fun k => F k ∨ k = q) w (w1.setCell ⟨q, 1, none⟩ (.nilIface))) := (hk.weaken (fun _ _ h => .inl h)).setCell (p := ⟨q, 1, none⟩) (.inl (.inr rfl)) _
      have HM := Hid.mk' hm
      have hc1 : w1.cell? ⟨q, 1, none⟩ = some .nilIface := cell_at (j := 1) hB1 rfl
      have hf1 : w1.frozen? ⟨q, 1, none⟩ = false := by simp [World.frozen?, hB1]
      clear hB1 hr hk hm hnF hE hq0 hq1
      go_wp2
      go_ret
      exact ⟨rfl, F', HE.out, HK.out, HM.out⟩
    | succ no =>
      have C2 : Hid (Calls Tryd.prog 63 #[ptr p] w fun e w' => e = .returned (.tuple #[u6 x, noE ((no + 1 : Nat) : Int)]) ∧ ∃ F', RR w' p F' (l.drop n) ∧ Keep F w w' ∧ Goes w F F') := C.out
      clear C
      go_enter Tryd.func61, Tryd.ntmps61
      go_wp2_with fail
      refine C2.out.mono ?_
      rintro e w1 ⟨rfl, F', hr, hk, hm⟩
      have hB1 := hk.at HT.out.blk HT.out.nF
      have hnF : ¬ F' q := fun hf => by
        rcases hm q hf with h1 | h1
        · exact HT.out.nF h1
        · have := HT.out.lt
          omega
      have hE := Tg.err (l.drop n) (no + 1) hB1 hr hnF
      have HE := Hid.mk' hE
      have HK : Hid (Keep (fun k => F k ∨ k = q) w (w1.setCell ⟨q, 1, none⟩ (noE ((no + 1 : Nat) : Int)))) := (hk.weaken (fun _ _ h => .inl h)).setCell (p := ⟨q, 1, none⟩) (.inl (.inr rfl)) _
      have HM := Hid.mk' hm
      have hc1 : w1.cell? ⟨q, 1, none⟩ = some .nilIface := cell_at (j := 1) hB1 rfl
      have hf1 : w1.frozen? ⟨q, 1, none⟩ = false := by simp [World.frozen?, hB1]
      clear hB1 hr hk hm hnF hE hq0 hq1
      go_wp2
      go_ret
      exact ⟨rfl, F', HE.out, HK.out, HM.out⟩
  | succ no =>
    have hq1 : w.cell? ⟨q, 1, none⟩ = some (noE ((no + 1 : Nat) : Int)) := cell_at (j := 1) h.blk rfl
    have hok := num_stuck l (no + 1) (by omega)
    rw [hok.1, hok.2]
    have HT := Hid.mk' h
    clear h hok
    obtain ⟨z, hz⟩ : ∃ z : Int, ((no + 1 : Nat) : Int) = z := ⟨_, rfl⟩
    rw [hz] at hq1
    clear hz
    go_enter Tryd.func61, Tryd.ntmps61
    go_wp2
    go_ret
    exact ⟨rfl, F, HT.out, Keep.refl _ _, Goes.refl _ _⟩

set_option maxRecDepth 100000 in
set_option maxHeartbeats 4000000 in
theorem tname (w : World) (q : Nat) (F : Nat → Prop) (s : List UInt8 × Nat) (p : Nat) (h : Tg w q F s p) : Calls Tryd.prog 62 #[ptr q] w fun e w' => e = .returned (.string (tx (X s))) ∧ ∃ F', Tg w' q F' (Y s) p ∧ Keep (fun k => F k ∨ k = q) w w' ∧ Goes w F F' := by
  obtain ⟨l, no⟩ := s
  cases no with
  | zero =>
    have hq0 := cell_at (j := 0) h.blk rfl
    have hq1 : w.cell? ⟨q, 1, none⟩ = some .nilIface := cell_at (j := 1) h.blk rfl
    have HT := Hid.mk' h
    have hok := txt_ok l
    have C : Hid (Calls Tryd.prog 64 #[ptr p, nu 32] w fun e w' => e = .returned (.tuple #[.string (tx (taken l 32).1), errE (taken l 32).2.2]) ∧ ∃ F', RR w' p F' (l.drop (taken l 32).2.1) ∧ Keep F w w' ∧ Goes w F F') := Pk.Pp.rtext_rw w p F l 32 h.rd (by decide)
    obtain ⟨x, n, no, hx⟩ : ∃ x n no, taken l 32 = (x, n, no) := ⟨_, _, _, rfl⟩
    rw [hx] at C hok
    simp only at hok
    obtain ⟨hok1, hok2⟩ := hok
    rw [hok1, hok2]
    clear h hx hok1 hok2
    cases no with
    | zero =>
      have C2 : Hid (Calls Tryd.prog 64 #[ptr p, nu 32] w fun e w' => e = .returned (.tuple #[.string (tx x), .nilIface]) ∧ ∃ F', RR w' p F' (l.drop n) ∧ Keep F w w' ∧ Goes w F F') := C.out
      clear C
      go_enter Tryd.func62, Tryd.ntmps62
      go_wp2_with fail
      refine C2.out.mono ?_
      rintro e w1 ⟨rfl, F', hr, hk, hm⟩
      have hB1 := hk.at HT.out.blk HT.out.nF
      have hnF : ¬ F' q := fun hf => by
        rcases hm q hf with h1 | h1
        · exact HT.out.nF h1
        · have := HT.out.lt
          omega
      have hE := Tg.err (l.drop n) 0 hB1 hr hnF
      have HE := Hid.mk' hE
      have HK : Hid (Keep (fun k => F k ∨ k = q) w (w1.setCell ⟨q, 1, none⟩ (.nilIface))) := (hk.weaken (fun _ _ h => .inl h)).setCell (p := ⟨q, 1, none⟩) (.inl (.inr rfl)) _
      have HM := Hid.mk' hm
      have hc1 : w1.cell? ⟨q, 1, none⟩ = some .nilIface := cell_at (j := 1) hB1 rfl
      have hf1 : w1.frozen? ⟨q, 1, none⟩ = false := by simp [World.frozen?, hB1]
      clear hB1 hr hk hm hnF hE hq0 hq1
      go_wp2
      go_ret
      exact ⟨rfl, F', HE.out, HK.out, HM.out⟩
    | succ no =>
      have C2 : Hid (Calls Tryd.prog 64 #[ptr p, nu 32] w fun e w' => e = .returned (.tuple #[.string (tx x), noE ((no + 1 : Nat) : Int)]) ∧ ∃ F', RR w' p F' (l.drop n) ∧ Keep F w w' ∧ Goes w F F') := C.out
      clear C
      go_enter Tryd.func62, Tryd.ntmps62
      go_wp2_with fail
      refine C2.out.mono ?_
      rintro e w1 ⟨rfl, F', hr, hk, hm⟩
      have hB1 := hk.at HT.out.blk HT.out.nF
      have hnF : ¬ F' q := fun hf => by
        rcases hm q hf with h1 | h1
        · exact HT.out.nF h1
        · have := HT.out.lt
          omega
      have hE := Tg.err (l.drop n) (no + 1) hB1 hr hnF
      have HE := Hid.mk' hE
      have HK : Hid (Keep (fun k => F k ∨ k = q) w (w1.setCell ⟨q, 1, none⟩ (noE ((no + 1 : Nat) : Int)))) := (hk.weaken (fun _ _ h => .inl h)).setCell (p := ⟨q, 1, none⟩) (.inl (.inr rfl)) _
      have HM := Hid.mk' hm
      have hc1 : w1.cell? ⟨q, 1, none⟩ = some .nilIface := cell_at (j := 1) hB1 rfl
      have hf1 : w1.frozen? ⟨q, 1, none⟩ = false := by simp [World.frozen?, hB1]
      clear hB1 hr hk hm hnF hE hq0 hq1
      go_wp2
      go_ret
      exact ⟨rfl, F', HE.out, HK.out, HM.out⟩
  | succ no =>
    have hq1 : w.cell? ⟨q, 1, none⟩ = some (noE ((no + 1 : Nat) : Int)) := cell_at (j := 1) h.blk rfl
    have hok := txt_stuck l (no + 1) (by omega)
    rw [hok.1, hok.2]
    have HT := Hid.mk' h
    clear h hok
    obtain ⟨z, hz⟩ : ∃ z : Int, ((no + 1 : Nat) : Int) = z := ⟨_, rfl⟩
    rw [hz] at hq1
    clear hz
    go_enter Tryd.func62, Tryd.ntmps62
    go_wp2
    go_ret
    exact ⟨rfl, F, HT.out, Keep.refl _ _, Goes.refl _ _⟩

theorem tint (w : World) (q : Nat) (F : Nat → Prop) (s : List UInt8 × Nat) (p : Nat) (h : Tg w q F s p) : Calls Tryd.prog 53 #[ptr q] w fun e w' => e = .returned (nu (asI (N s))) ∧ ∃ F', Tg w' q F' (M s) p ∧ Keep (fun k => F k ∨ k = q) w w' ∧ Goes w F F' := by
  have C := Hid.mk' (tnumber w q F s p h)
  have hA := Hid.mk' (wrap_asI (N s) (N_lt s))
  obtain ⟨n, hn⟩ : ∃ n, N s = n := ⟨_, rfl⟩
  rw [hn] at C hA ⊢
  clear h hn
  go_enter Tryd.func53, Tryd.ntmps53
  go_wp2_with fail
  refine C.out.mono ?_
  rintro e w1 ⟨rfl, F', hT, hk, hm⟩
  have HT := Hid.mk' hT
  have HK := Hid.mk' hk
  have HM := Hid.mk' hm
  clear hT hk hm
  go_wp2
  go_ret
  refine ⟨?_, F', HT.out, HK.out, HM.out⟩
  show Ending.returned (.int .i64 (wrap64 (n : Int))) = _
  rw [hA.out]

/-- It is put into a variable. -/
def putN (w : World) (b : Nat) (s : Sn) : World := (((((((((((w.setCell ⟨b, 0, none⟩ (nu s.slot)).setCell ⟨b, 1, none⟩ (nu s.birth)).setCell ⟨b, 2, none⟩ (nu s.us)).setCell ⟨b, 3, none⟩ (nu s.ub)).setCell ⟨b, 4, none⟩ (nu s.kind)).setCell ⟨b, 5, none⟩ (.string (tx s.user))).setCell ⟨b, 6, none⟩ (.string (tx s.label))).setCell ⟨b, 7, none⟩ (.int .u64 s.scopes)).setCell ⟨b, 8, none⟩ (nu s.level)).setCell ⟨b, 9, none⟩ (nu s.born)).setCell ⟨b, 10, none⟩ (nu s.deadline)).setCell ⟨b, 11, none⟩ (nu s.depth)

theorem putN_heap {w : World} {b : Nat} {z : Sn} (s : Sn) (h : w.heap[b]? = some (.cells z.arr 27 (0, 0))) : (putN w b s).heap[b]? = some (.cells s.arr 27 (0, 0)) := by
  have h0 := heap_setCell_same _ b 0 _ _ (nu s.slot) h
  have h1 := heap_setCell_same _ b 1 _ _ (nu s.birth) h0
  have h2 := heap_setCell_same _ b 2 _ _ (nu s.us) h1
  have h3 := heap_setCell_same _ b 3 _ _ (nu s.ub) h2
  have h4 := heap_setCell_same _ b 4 _ _ (nu s.kind) h3
  have h5 := heap_setCell_same _ b 5 _ _ (.string (tx s.user)) h4
  have h6 := heap_setCell_same _ b 6 _ _ (.string (tx s.label)) h5
  have h7 := heap_setCell_same _ b 7 _ _ (.int .u64 s.scopes) h6
  have h8 := heap_setCell_same _ b 8 _ _ (nu s.level) h7
  have h9 := heap_setCell_same _ b 9 _ _ (nu s.born) h8
  have h10 := heap_setCell_same _ b 10 _ _ (nu s.deadline) h9
  have h11 := heap_setCell_same _ b 11 _ _ (nu s.depth) h10
  unfold putN
  refine h11.trans (congrArg (fun c => some (Obj.cells c 27 (0, 0))) ?_)
  simp only [Sn.arr, List.setIfInBounds_toArray, List.set]

theorem putN_other {w : World} {b k : Nat} (s : Sn) (hk : k ≠ b) : (putN w b s).heap[k]? = w.heap[k]? := by
  unfold putN
  simp only [heap_setCell_other _ _ _ _ (show k ≠ (⟨b, _, none⟩ : Addr).block from hk)]

theorem putN_keep {w0 w : World} {G : Nat → Prop} {b : Nat} (s : Sn) (h : Keep G w0 w) (hb : G b ∨ w0.heap.size ≤ b) : Keep G w0 (putN w b s) := by
  unfold putN
  iterate 12 (refine Keep.setCell ?_ hb _)
  exact h

theorem sizeN (s : Sn) : (Tryd.prog.info? 27).map (·.size) = some s.arr.size := by
  show _ = some 12
  kernel_rfl

theorem cell_of' {w : World} {sb j : Nat} {xs : Array Value} {t : TypeId} {v : Value} (h : w.heap[sb]? = some (.cells xs t)) (hj : xs[j]? = some v) : w.cell? ⟨sb, j, none⟩ = some v := cell_at h hj

/-- A session under way. -/
structure Bq (wE w : World) (q p : Nat) (FE F : Nat → Prop) (s : List UInt8 × Nat) (rb sb : Nat) (xs : Array Value) : Prop where
  tg : Tg w q F s p
  rblk : w.heap[rb]? = some (.cells Sn.zero.arr 27)
  sblk : w.heap[sb]? = some (.cells xs 27)
  nr : ¬ (F rb ∨ rb = q)
  ns : ¬ (F sb ∨ sb = q)
  n3 : rb ≠ sb
  r0 : wE.heap.size ≤ rb
  s0 : wE.heap.size ≤ sb
  go : Goes wE FE F
  K : Keep (fun k => FE k ∨ k = q) wE w

theorem Bq.call {wE w w' : World} {q p : Nat} {FE F F' : Nat → Prop} {s s' : List UInt8 × Nat} {rb sb : Nat} {xs : Array Value} (h : Bq wE w q p FE F s rb sb xs) (ht : Tg w' q F' s' p) (hk : Keep (fun k => F k ∨ k = q) w w') (hm : Goes w F F') : Bq wE w' q p FE F' s' rb sb xs := by
  have hl1 := (Array.getElem?_eq_some_iff.1 h.rblk).1
  have hl2 := (Array.getElem?_eq_some_iff.1 h.sblk).1
  refine ⟨ht, hk.at h.rblk h.nr, hk.at h.sblk h.ns, ?_, ?_, h.n3, h.r0, h.s0, fun i hi => ?_, h.K.trans hk (fun i hi hf => ?_)⟩
  · rintro (hf | hf)
    · rcases hm _ hf with h1 | h1
      · exact h.nr (.inl h1)
      · omega
    · exact h.nr (.inr hf)
  · rintro (hf | hf)
    · rcases hm _ hf with h1 | h1
      · exact h.ns (.inl h1)
      · omega
    · exact h.ns (.inr hf)
  · rcases hm i hi with h1 | h1
    · exact h.go i h1
    · have := h.K.size
      exact .inr (by omega)
  · rcases hf with hf | hf
    · rcases h.go i hf with h1 | h1
      · exact .inl h1
      · omega
    · exact .inr hf

theorem Bq.set {wE w : World} {q p : Nat} {FE F : Nat → Prop} {s : List UInt8 × Nat} {rb sb : Nat} {xs ys : Array Value} (h : Bq wE w q p FE F s rb sb xs) (j : Nat) (u : Value) (hy : xs.setIfInBounds j u = ys) : Bq wE (w.setCell ⟨sb, j, none⟩ u) q p FE F s rb sb ys := by
  have hK : Keep (fun k => k = sb) w (w.setCell ⟨sb, j, none⟩ u) := (Keep.refl (fun k => k = sb) w).setCell (p := ⟨sb, j, none⟩) (.inl rfl) _
  have hB := heap_setCell_same _ sb j _ _ u h.sblk
  rw [hy] at hB
  exact ⟨h.tg.keep hK (fun e => h.ns (.inr e.symm)) (fun k hk e => h.ns (.inl (e ▸ hk))), hK.at h.rblk h.n3, hB, h.nr, h.ns, h.n3, h.r0, h.s0, h.go, h.K.setCell (p := ⟨sb, j, none⟩) (.inr h.s0) _⟩

theorem Bq.at {wE w : World} {q p : Nat} {FE F : Nat → Prop} {s : List UInt8 × Nat} {rb sb : Nat} {xs : Array Value} (h : Bq wE w q p FE F s rb sb xs) (j : Nat) (u : Value) (hj : xs[j]? = some u) : w.cell? ⟨sb, j, none⟩ = some u ∧ w.frozen? ⟨sb, j, none⟩ = false :=
  ⟨cell_at h.sblk hj, by simp [World.frozen?, h.sblk]⟩

theorem Bq.frz {wE w : World} {q p : Nat} {FE F : Nat → Prop} {s : List UInt8 × Nat} {rb sb : Nat} {xs : Array Value} (h : Bq wE w q p FE F s rb sb xs) (j : Nat) : w.frozen? ⟨rb, j, none⟩ = false := by simp [World.frozen?, h.rblk]

set_option maxRecDepth 100000 in
set_option maxHeartbeats 8000000 in
theorem tsession (w : World) (q : Nat) (F : Nat → Prop) (s : List UInt8 × Nat) (p : Nat) (h : Tg w q F s p) :
    Calls Tryd.prog 54 #[ptr q] w fun e w' => e = .returned (.agg (wildS s).arr) ∧ ∃ F', Tg w' q F' (wildM s) p ∧ Keep (fun k => F k ∨ k = q) w w' ∧ Goes w F F' := by
  have hlt := h.lt
  have h0b : Below w.heap.size w ((w.alloc (.cells Sn.zero.arr 27)).alloc (.cells Sn.zero.arr 27)) := two_below _ _ _
  have hFl := Pk.Pp.ltR h.rd
  have hBn : Bq w ((w.alloc (.cells Sn.zero.arr 27)).alloc (.cells Sn.zero.arr 27)) q p F F s w.heap.size (w.heap.size + 1) Sn.zero.arr := by
    have s1 : (w.alloc (.cells Sn.zero.arr 27)).heap.size = w.heap.size + 1 := by simp
    have b := heap_alloc_new (w.alloc (.cells Sn.zero.arr 27)) (.cells Sn.zero.arr 27)
    rw [s1] at b
    refine ⟨h.keep (Keep.of_below (F := fun _ => False) h0b) (fun h => h) (fun _ _ h => h), two_new _ _ _, b, ?_, ?_, by omega, Nat.le_refl _, by omega, Goes.refl _ _, Keep.of_below h0b⟩
    · rintro (hf | hf)
      · have := hFl _ hf
        omega
      · omega
    · rintro (hf | hf)
      · have := hFl _ hf
        omega
      · omega
  obtain ⟨v1, g1⟩ : ∃ v, asI (N s) = v := ⟨_, rfl⟩
  obtain ⟨s1, k1⟩ : ∃ s', M s = s' := ⟨_, rfl⟩
  have c1 : Hid (∀ wx Fx, Tg wx q Fx s p → Calls Tryd.prog 53 #[ptr q] wx fun e w' => e = .returned (nu v1) ∧ ∃ F', Tg w' q F' s1 p ∧ Keep (fun k => Fx k ∨ k = q) wx w' ∧ Goes wx Fx F') := fun wx Fx hx => by
    have := tint wx q Fx s p hx
    rw [g1, k1] at this
    exact this
  obtain ⟨v2, g2⟩ : ∃ v, asI (N s1) = v := ⟨_, rfl⟩
  obtain ⟨s2, k2⟩ : ∃ s', M s1 = s' := ⟨_, rfl⟩
  have c2 : Hid (∀ wx Fx, Tg wx q Fx s1 p → Calls Tryd.prog 53 #[ptr q] wx fun e w' => e = .returned (nu v2) ∧ ∃ F', Tg w' q F' s2 p ∧ Keep (fun k => Fx k ∨ k = q) wx w' ∧ Goes wx Fx F') := fun wx Fx hx => by
    have := tint wx q Fx s1 p hx
    rw [g2, k2] at this
    exact this
  obtain ⟨v3, g3⟩ : ∃ v, asI (N s2) = v := ⟨_, rfl⟩
  obtain ⟨s3, k3⟩ : ∃ s', M s2 = s' := ⟨_, rfl⟩
  have c3 : Hid (∀ wx Fx, Tg wx q Fx s2 p → Calls Tryd.prog 53 #[ptr q] wx fun e w' => e = .returned (nu v3) ∧ ∃ F', Tg w' q F' s3 p ∧ Keep (fun k => Fx k ∨ k = q) wx w' ∧ Goes wx Fx F') := fun wx Fx hx => by
    have := tint wx q Fx s2 p hx
    rw [g3, k3] at this
    exact this
  obtain ⟨v4, g4⟩ : ∃ v, asI (N s3) = v := ⟨_, rfl⟩
  obtain ⟨s4, k4⟩ : ∃ s', M s3 = s' := ⟨_, rfl⟩
  have c4 : Hid (∀ wx Fx, Tg wx q Fx s3 p → Calls Tryd.prog 53 #[ptr q] wx fun e w' => e = .returned (nu v4) ∧ ∃ F', Tg w' q F' s4 p ∧ Keep (fun k => Fx k ∨ k = q) wx w' ∧ Goes wx Fx F') := fun wx Fx hx => by
    have := tint wx q Fx s3 p hx
    rw [g4, k4] at this
    exact this
  obtain ⟨v5, g5⟩ : ∃ v, asI (N s4) = v := ⟨_, rfl⟩
  obtain ⟨s5, k5⟩ : ∃ s', M s4 = s' := ⟨_, rfl⟩
  have c5 : Hid (∀ wx Fx, Tg wx q Fx s4 p → Calls Tryd.prog 53 #[ptr q] wx fun e w' => e = .returned (nu v5) ∧ ∃ F', Tg w' q F' s5 p ∧ Keep (fun k => Fx k ∨ k = q) wx w' ∧ Goes wx Fx F') := fun wx Fx hx => by
    have := tint wx q Fx s4 p hx
    rw [g5, k5] at this
    exact this
  obtain ⟨v6, g6⟩ : ∃ v, X s5 = v := ⟨_, rfl⟩
  obtain ⟨s6, k6⟩ : ∃ s', Y s5 = s' := ⟨_, rfl⟩
  have c6 : Hid (∀ wx Fx, Tg wx q Fx s5 p → Calls Tryd.prog 62 #[ptr q] wx fun e w' => e = .returned (.string (tx v6)) ∧ ∃ F', Tg w' q F' s6 p ∧ Keep (fun k => Fx k ∨ k = q) wx w' ∧ Goes wx Fx F') := fun wx Fx hx => by
    have := tname wx q Fx s5 p hx
    rw [g6, k6] at this
    exact this
  obtain ⟨v7, g7⟩ : ∃ v, X s6 = v := ⟨_, rfl⟩
  obtain ⟨s7, k7⟩ : ∃ s', Y s6 = s' := ⟨_, rfl⟩
  have c7 : Hid (∀ wx Fx, Tg wx q Fx s6 p → Calls Tryd.prog 62 #[ptr q] wx fun e w' => e = .returned (.string (tx v7)) ∧ ∃ F', Tg w' q F' s7 p ∧ Keep (fun k => Fx k ∨ k = q) wx w' ∧ Goes wx Fx F') := fun wx Fx hx => by
    have := tname wx q Fx s6 p hx
    rw [g7, k7] at this
    exact this
  obtain ⟨v8, g8⟩ : ∃ v, N s7 = v := ⟨_, rfl⟩
  obtain ⟨s8, k8⟩ : ∃ s', M s7 = s' := ⟨_, rfl⟩
  have c8 : Hid (∀ wx Fx, Tg wx q Fx s7 p → Calls Tryd.prog 61 #[ptr q] wx fun e w' => e = .returned (.int .u64 (v8 : Int)) ∧ ∃ F', Tg w' q F' s8 p ∧ Keep (fun k => Fx k ∨ k = q) wx w' ∧ Goes wx Fx F') := fun wx Fx hx => by
    have := tnumber wx q Fx s7 p hx
    rw [g8, k8] at this
    exact this
  obtain ⟨v9, g9⟩ : ∃ v, asI (N s8) = v := ⟨_, rfl⟩
  obtain ⟨s9, k9⟩ : ∃ s', M s8 = s' := ⟨_, rfl⟩
  have c9 : Hid (∀ wx Fx, Tg wx q Fx s8 p → Calls Tryd.prog 53 #[ptr q] wx fun e w' => e = .returned (nu v9) ∧ ∃ F', Tg w' q F' s9 p ∧ Keep (fun k => Fx k ∨ k = q) wx w' ∧ Goes wx Fx F') := fun wx Fx hx => by
    have := tint wx q Fx s8 p hx
    rw [g9, k9] at this
    exact this
  obtain ⟨v10, g10⟩ : ∃ v, asI (N s9) = v := ⟨_, rfl⟩
  obtain ⟨s10, k10⟩ : ∃ s', M s9 = s' := ⟨_, rfl⟩
  have c10 : Hid (∀ wx Fx, Tg wx q Fx s9 p → Calls Tryd.prog 53 #[ptr q] wx fun e w' => e = .returned (nu v10) ∧ ∃ F', Tg w' q F' s10 p ∧ Keep (fun k => Fx k ∨ k = q) wx w' ∧ Goes wx Fx F') := fun wx Fx hx => by
    have := tint wx q Fx s9 p hx
    rw [g10, k10] at this
    exact this
  obtain ⟨v11, g11⟩ : ∃ v, asI (N s10) = v := ⟨_, rfl⟩
  obtain ⟨s11, k11⟩ : ∃ s', M s10 = s' := ⟨_, rfl⟩
  have c11 : Hid (∀ wx Fx, Tg wx q Fx s10 p → Calls Tryd.prog 53 #[ptr q] wx fun e w' => e = .returned (nu v11) ∧ ∃ F', Tg w' q F' s11 p ∧ Keep (fun k => Fx k ∨ k = q) wx w' ∧ Goes wx Fx F') := fun wx Fx hx => by
    have := tint wx q Fx s10 p hx
    rw [g11, k11] at this
    exact this
  obtain ⟨v12, g12⟩ : ∃ v, asI (N s11) = v := ⟨_, rfl⟩
  obtain ⟨s12, k12⟩ : ∃ s', M s11 = s' := ⟨_, rfl⟩
  have c12 : Hid (∀ wx Fx, Tg wx q Fx s11 p → Calls Tryd.prog 53 #[ptr q] wx fun e w' => e = .returned (nu v12) ∧ ∃ F', Tg w' q F' s12 p ∧ Keep (fun k => Fx k ∨ k = q) wx w' ∧ Goes wx Fx F') := fun wx Fx hx => by
    have := tint wx q Fx s11 p hx
    rw [g12, k12] at this
    exact this
  have hS : Hid (wildS s = ⟨v1, v2, v3, v4, v5, v6, v7, (v8 : Int), v9, v10, v11, v12⟩) := by
    show _ = _
    unfold wildS
    rw [k1, k2, k3, k4, k5, k6, k7, k8, k9, k10, k11, g1, g2, g3, g4, g5, g6, g7, g8, g9, g10, g11, g12]
  have hM : Hid (wildM s = s12) := by
    show _ = _
    unfold wildM
    rw [k1, k2, k3, k4, k5, k6, k7, k8, k9, k10, k11, k12]
  clear g1 g2 g3 g4 g5 g6 g7 g8 g9 g10 g11 g12 k1 k2 k3 k4 k5 k6 k7 k8 k9 k10 k11 k12 h h0b
  have HFl := Hid.mk' hFl
  clear hFl
  obtain ⟨f6, hf6⟩ : ∃ f, tx v6 = f := ⟨_, rfl⟩
  obtain ⟨f7, hf7⟩ : ∃ f, tx v7 = f := ⟨_, rfl⟩
  rw [hf6] at c6
  rw [hf7] at c7
  have HF6 := Hid.mk' hf6
  have HF7 := Hid.mk' hf7
  clear hf6 hf7
  have HZ : Hid (Sn.zero.arr = #[nu 0, nu 0, nu 0, nu 0, nu 0, .string ⟨#[]⟩, .string ⟨#[]⟩, .int .u64 0, nu 0, nu 0, nu 0, nu 0]) := rfl
  rw [HZ.out] at hBn
  have HN0 := Hid.mk' hBn
  clear hBn
  go_enter Tryd.func54, Tryd.ntmps54
  go_wp2_with fail
  refine (c1.out _ _ HN0.out.tg).mono ?_
  rintro e x1 ⟨rfl, F1, ht1, hk1, hm1⟩
  have hM1 := HN0.out.call ht1 hk1 hm1
  obtain ⟨a1, b1⟩ := hM1.at 0 (nu 0) rfl
  have HN1 := Hid.mk' (hM1.set 0 (nu v1) (ys := #[nu v1, nu 0, nu 0, nu 0, nu 0, .string ⟨#[]⟩, .string ⟨#[]⟩, .int .u64 0, nu 0, nu 0, nu 0, nu 0]) rfl)
  clear ht1 hk1 hm1 hM1 c1 HN0
  go_wp2_with fail
  refine (c2.out _ _ HN1.out.tg).mono ?_
  rintro e x2 ⟨rfl, F2, ht2, hk2, hm2⟩
  have hM2 := HN1.out.call ht2 hk2 hm2
  obtain ⟨a2, b2⟩ := hM2.at 1 (nu 0) rfl
  have HN2 := Hid.mk' (hM2.set 1 (nu v2) (ys := #[nu v1, nu v2, nu 0, nu 0, nu 0, .string ⟨#[]⟩, .string ⟨#[]⟩, .int .u64 0, nu 0, nu 0, nu 0, nu 0]) rfl)
  clear ht2 hk2 hm2 hM2 c2 HN1 a1 b1
  go_wp2_with fail
  refine (c3.out _ _ HN2.out.tg).mono ?_
  rintro e x3 ⟨rfl, F3, ht3, hk3, hm3⟩
  have hM3 := HN2.out.call ht3 hk3 hm3
  obtain ⟨a3, b3⟩ := hM3.at 2 (nu 0) rfl
  have HN3 := Hid.mk' (hM3.set 2 (nu v3) (ys := #[nu v1, nu v2, nu v3, nu 0, nu 0, .string ⟨#[]⟩, .string ⟨#[]⟩, .int .u64 0, nu 0, nu 0, nu 0, nu 0]) rfl)
  clear ht3 hk3 hm3 hM3 c3 HN2 a2 b2
  go_wp2_with fail
  refine (c4.out _ _ HN3.out.tg).mono ?_
  rintro e x4 ⟨rfl, F4, ht4, hk4, hm4⟩
  have hM4 := HN3.out.call ht4 hk4 hm4
  obtain ⟨a4, b4⟩ := hM4.at 3 (nu 0) rfl
  have HN4 := Hid.mk' (hM4.set 3 (nu v4) (ys := #[nu v1, nu v2, nu v3, nu v4, nu 0, .string ⟨#[]⟩, .string ⟨#[]⟩, .int .u64 0, nu 0, nu 0, nu 0, nu 0]) rfl)
  clear ht4 hk4 hm4 hM4 c4 HN3 a3 b3
  go_wp2_with fail
  refine (c5.out _ _ HN4.out.tg).mono ?_
  rintro e x5 ⟨rfl, F5, ht5, hk5, hm5⟩
  have hM5 := HN4.out.call ht5 hk5 hm5
  obtain ⟨a5, b5⟩ := hM5.at 4 (nu 0) rfl
  have HN5 := Hid.mk' (hM5.set 4 (nu v5) (ys := #[nu v1, nu v2, nu v3, nu v4, nu v5, .string ⟨#[]⟩, .string ⟨#[]⟩, .int .u64 0, nu 0, nu 0, nu 0, nu 0]) rfl)
  clear ht5 hk5 hm5 hM5 c5 HN4 a4 b4
  go_wp2_with fail
  refine (c6.out _ _ HN5.out.tg).mono ?_
  rintro e x6 ⟨rfl, F6, ht6, hk6, hm6⟩
  have hM6 := HN5.out.call ht6 hk6 hm6
  obtain ⟨a6, b6⟩ := hM6.at 5 (.string ⟨#[]⟩) rfl
  have HN6 := Hid.mk' (hM6.set 5 (.string f6) (ys := #[nu v1, nu v2, nu v3, nu v4, nu v5, .string f6, .string ⟨#[]⟩, .int .u64 0, nu 0, nu 0, nu 0, nu 0]) rfl)
  clear ht6 hk6 hm6 hM6 c6 HN5 a5 b5
  go_wp2_with fail
  refine (c7.out _ _ HN6.out.tg).mono ?_
  rintro e x7 ⟨rfl, F7, ht7, hk7, hm7⟩
  have hM7 := HN6.out.call ht7 hk7 hm7
  obtain ⟨a7, b7⟩ := hM7.at 6 (.string ⟨#[]⟩) rfl
  have HN7 := Hid.mk' (hM7.set 6 (.string f7) (ys := #[nu v1, nu v2, nu v3, nu v4, nu v5, .string f6, .string f7, .int .u64 0, nu 0, nu 0, nu 0, nu 0]) rfl)
  clear ht7 hk7 hm7 hM7 c7 HN6 a6 b6
  go_wp2_with fail
  refine (c8.out _ _ HN7.out.tg).mono ?_
  rintro e x8 ⟨rfl, F8, ht8, hk8, hm8⟩
  have hM8 := HN7.out.call ht8 hk8 hm8
  obtain ⟨a8, b8⟩ := hM8.at 7 (.int .u64 0) rfl
  have HN8 := Hid.mk' (hM8.set 7 (.int .u64 (v8 : Int)) (ys := #[nu v1, nu v2, nu v3, nu v4, nu v5, .string f6, .string f7, .int .u64 (v8 : Int), nu 0, nu 0, nu 0, nu 0]) rfl)
  clear ht8 hk8 hm8 hM8 c8 HN7 a7 b7
  go_wp2_with fail
  refine (c9.out _ _ HN8.out.tg).mono ?_
  rintro e x9 ⟨rfl, F9, ht9, hk9, hm9⟩
  have hM9 := HN8.out.call ht9 hk9 hm9
  obtain ⟨a9, b9⟩ := hM9.at 8 (nu 0) rfl
  have HN9 := Hid.mk' (hM9.set 8 (nu v9) (ys := #[nu v1, nu v2, nu v3, nu v4, nu v5, .string f6, .string f7, .int .u64 (v8 : Int), nu v9, nu 0, nu 0, nu 0]) rfl)
  clear ht9 hk9 hm9 hM9 c9 HN8 a8 b8
  go_wp2_with fail
  refine (c10.out _ _ HN9.out.tg).mono ?_
  rintro e x10 ⟨rfl, F10, ht10, hk10, hm10⟩
  have hM10 := HN9.out.call ht10 hk10 hm10
  obtain ⟨a10, b10⟩ := hM10.at 9 (nu 0) rfl
  have HN10 := Hid.mk' (hM10.set 9 (nu v10) (ys := #[nu v1, nu v2, nu v3, nu v4, nu v5, .string f6, .string f7, .int .u64 (v8 : Int), nu v9, nu v10, nu 0, nu 0]) rfl)
  clear ht10 hk10 hm10 hM10 c10 HN9 a9 b9
  go_wp2_with fail
  refine (c11.out _ _ HN10.out.tg).mono ?_
  rintro e x11 ⟨rfl, F11, ht11, hk11, hm11⟩
  have hM11 := HN10.out.call ht11 hk11 hm11
  obtain ⟨a11, b11⟩ := hM11.at 10 (nu 0) rfl
  have HN11 := Hid.mk' (hM11.set 10 (nu v11) (ys := #[nu v1, nu v2, nu v3, nu v4, nu v5, .string f6, .string f7, .int .u64 (v8 : Int), nu v9, nu v10, nu v11, nu 0]) rfl)
  clear ht11 hk11 hm11 hM11 c11 HN10 a10 b10
  go_wp2_with fail
  refine (c12.out _ _ HN11.out.tg).mono ?_
  rintro e x12 ⟨rfl, F12, ht12, hk12, hm12⟩
  have hM12 := HN11.out.call ht12 hk12 hm12
  obtain ⟨a12, b12⟩ := hM12.at 11 (nu 0) rfl
  have HN12 := Hid.mk' (hM12.set 11 (nu v12) (ys := #[nu v1, nu v2, nu v3, nu v4, nu v5, .string f6, .string f7, .int .u64 (v8 : Int), nu v9, nu v10, nu v11, nu v12]) rfl)
  clear ht12 hk12 hm12 hM12 c12 HN11 a11 b11
  have r := HN12.out
  have z0 := (r.at 0 (nu v1) rfl).1
  have z1 := (r.at 1 (nu v2) rfl).1
  have z2 := (r.at 2 (nu v3) rfl).1
  have z3 := (r.at 3 (nu v4) rfl).1
  have z4 := (r.at 4 (nu v5) rfl).1
  have z5 := (r.at 5 (.string f6) rfl).1
  have z6 := (r.at 6 (.string f7) rfl).1
  have z7 := (r.at 7 (.int .u64 (v8 : Int)) rfl).1
  have z8 := (r.at 8 (nu v9) rfl).1
  have z9 := (r.at 9 (nu v10) rfl).1
  have z10 := (r.at 10 (nu v11) rfl).1
  have z11 := (r.at 11 (nu v12) rfl).1
  have HRB := Hid.mk' r.rblk
  rw [HZ.out] at HRB
  have y0 := cell_at (j := 0) HRB.out rfl
  have yf0 := r.frz 0
  have y1 := cell_at (j := 1) HRB.out rfl
  have yf1 := r.frz 1
  have y2 := cell_at (j := 2) HRB.out rfl
  have yf2 := r.frz 2
  have y3 := cell_at (j := 3) HRB.out rfl
  have yf3 := r.frz 3
  have y4 := cell_at (j := 4) HRB.out rfl
  have yf4 := r.frz 4
  have y5 := cell_at (j := 5) HRB.out rfl
  have yf5 := r.frz 5
  have y6 := cell_at (j := 6) HRB.out rfl
  have yf6 := r.frz 6
  have y7 := cell_at (j := 7) HRB.out rfl
  have yf7 := r.frz 7
  have y8 := cell_at (j := 8) HRB.out rfl
  have yf8 := r.frz 8
  have y9 := cell_at (j := 9) HRB.out rfl
  have yf9 := r.frz 9
  have y10 := cell_at (j := 10) HRB.out rfl
  have yf10 := r.frz 10
  have y11 := cell_at (j := 11) HRB.out rfl
  have yf11 := r.frz 11
  have HKE := Hid.mk' r.K
  have HTK := Hid.mk' r.tg
  have HNR := Hid.mk' r.nr
  have HGO := Hid.mk' r.go
  clear r
  go_wp2
  have hf6 := HF6.out
  have hf7 := HF7.out
  subst hf6 hf7
  have HRZ : Hid ((x12.setCell ⟨w.heap.size + 1, 11, none⟩ (nu v12)).heap[w.heap.size]? = some (.cells Sn.zero.arr 27 (0, 0))) := by
    show _ = _
    rw [HZ.out]
    exact HRB.out
  refine bodyPost_ret (results_cell_row rfl _ _ w.heap.size _ _ _ _ rfl (putN_heap (z := Sn.zero) ⟨v1, v2, v3, v4, v5, v6, v7, (v8 : Int), v9, v10, v11, v12⟩ HRZ.out) Tryd.underlying27 rfl (sizeN _)) rfl ?_
  rw [hS.out, hM.out]
  refine ⟨rfl, F12, ?_, putN_keep ⟨v1, v2, v3, v4, v5, v6, v7, (v8 : Int), v9, v10, v11, v12⟩ HKE.out (.inr (Nat.le_refl _)), HGO.out⟩
  exact HTK.out.keep (putN_keep (G := fun k => k = w.heap.size) ⟨v1, v2, v3, v4, v5, v6, v7, (v8 : Int), v9, v10, v11, v12⟩ (Keep.refl _ _) (.inl rfl)) (fun e => HNR.out (.inr e.symm)) (fun k hk e => HNR.out (.inl (e ▸ hk)))

theorem Tg.two {w w1 w2 : World} {q : Nat} {F F1 F2 : Nat → Prop} (hk : Keep (fun k => F k ∨ k = q) w w1) (hm : Goes w F F1) (hk2 : Keep (fun k => F1 k ∨ k = q) w1 w2) (hm2 : Goes w1 F1 F2) : Keep (fun k => F k ∨ k = q) w w2 ∧ Goes w F F2 := by
  refine ⟨hk.trans hk2 (fun i hi hf => ?_), fun i hi => ?_⟩
  · rcases hf with hf | hf
    · rcases hm i hf with h1 | h1
      · exact .inl h1
      · omega
    · exact .inr hf
  · rcases hm2 i hi with h1 | h1
    · exact hm i h1
    · have := hk.size
      exact .inr (by omega)

set_option maxRecDepth 100000 in
set_option maxHeartbeats 4000000 in
theorem hap_birth (w : World) (q : Nat) (F : Nat → Prop) (s : List UInt8 × Nat) (p : Nat) (h : Tg w q F s p) (hk : N s = 0) :
    Calls Tryd.prog 37 #[ptr q] w fun e w' => e = .returned (.iface 91 (.agg (wildS (M s)).arr)) ∧ ∃ F', Tg w' q F' (wildM (M s)) p ∧ Keep (fun k => F k ∨ k = q) w w' ∧ Goes w F F' := by
  have C := Hid.mk' (tint w q F s p h)
  have hz : asI (N s) = 0 := by
    rw [hk]
    rfl
  rw [hz] at C
  clear hz hk
  clear h
  go_enter Tryd.func37, Tryd.ntmps37
  go_wp2_with fail
  refine C.out.mono ?_
  rintro e w1 ⟨rfl, F1, hT, hk, hm⟩
  have HT := Hid.mk' hT
  have HK := Hid.mk' hk
  have HM := Hid.mk' hm
  clear hT hk hm
  have c2 := tsession w1 q F1 (M s) p HT.out
  obtain ⟨xs, hx⟩ : ∃ xs, wildS (M s) = xs := ⟨_, rfl⟩
  rw [hx] at c2
  have HXS := Hid.mk' hx
  clear hx
  obtain ⟨slot, birth, us, ub, skind, user, label, scopes, level, born, deadline, depth⟩ := xs
  unfold Sn.arr at c2
  simp only at c2
  have C2 := Hid.mk' c2
  clear c2
  go_wp2_with fail
  refine C2.out.mono ?_
  rintro e w2 ⟨rfl, F2, hT, hk, hm⟩
  have HT2 := Hid.mk' hT
  have HX := Hid.mk' (Tg.two HK.out HM.out hk hm)
  clear hT hk hm HT HK HM
  go_wp2
  go_ret
  rw [HXS.out]
  exact ⟨rfl, F2, HT2.out, HX.out.1, HX.out.2⟩

set_option maxRecDepth 100000 in
set_option maxHeartbeats 4000000 in
theorem hap_rev (w : World) (q : Nat) (F : Nat → Prop) (s : List UInt8 × Nat) (p : Nat) (h : Tg w q F s p) (hk : N s = 1) :
    Calls Tryd.prog 37 #[ptr q] w fun e w' => e = .returned (.iface 93 (.agg #[nu (asI (N (M s)))])) ∧ ∃ F', Tg w' q F' (M (M s)) p ∧ Keep (fun k => F k ∨ k = q) w w' ∧ Goes w F F' := by
  have C := Hid.mk' (tint w q F s p h)
  have hz : asI (N s) = 1 := by
    rw [hk]
    rfl
  rw [hz] at C
  clear hz hk
  clear h
  go_enter Tryd.func37, Tryd.ntmps37
  go_wp2_with fail
  refine C.out.mono ?_
  rintro e w1 ⟨rfl, F1, hT, hk, hm⟩
  have HT := Hid.mk' hT
  have HK := Hid.mk' hk
  have HM := Hid.mk' hm
  clear hT hk hm
  have C2 := Hid.mk' (tint w1 q F1 (M s) p HT.out)
  obtain ⟨x, hx⟩ : ∃ x, asI (N (M s)) = x := ⟨_, rfl⟩
  rw [hx] at C2
  have HXS := Hid.mk' hx
  clear hx
  go_wp2_with fail
  refine C2.out.mono ?_
  rintro e w2 ⟨rfl, F2, hT, hk, hm⟩
  have HT2 := Hid.mk' hT
  have HX := Hid.mk' (Tg.two HK.out HM.out hk hm)
  clear hT hk hm HT HK HM
  go_wp2
  go_ret
  rw [HXS.out]
  exact ⟨rfl, F2, HT2.out, HX.out.1, HX.out.2⟩

set_option maxRecDepth 100000 in
set_option maxHeartbeats 4000000 in
theorem hap_tick (w : World) (q : Nat) (F : Nat → Prop) (s : List UInt8 × Nat) (p : Nat) (h : Tg w q F s p) (hk : N s = 2) :
    Calls Tryd.prog 37 #[ptr q] w fun e w' => e = .returned (.iface 95 (.agg #[nu (asI (N (M s)))])) ∧ ∃ F', Tg w' q F' (M (M s)) p ∧ Keep (fun k => F k ∨ k = q) w w' ∧ Goes w F F' := by
  have C := Hid.mk' (tint w q F s p h)
  have hz : asI (N s) = 2 := by
    rw [hk]
    rfl
  rw [hz] at C
  clear hz hk
  clear h
  go_enter Tryd.func37, Tryd.ntmps37
  go_wp2_with fail
  refine C.out.mono ?_
  rintro e w1 ⟨rfl, F1, hT, hk, hm⟩
  have HT := Hid.mk' hT
  have HK := Hid.mk' hk
  have HM := Hid.mk' hm
  clear hT hk hm
  have C2 := Hid.mk' (tint w1 q F1 (M s) p HT.out)
  obtain ⟨x, hx⟩ : ∃ x, asI (N (M s)) = x := ⟨_, rfl⟩
  rw [hx] at C2
  have HXS := Hid.mk' hx
  clear hx
  go_wp2_with fail
  refine C2.out.mono ?_
  rintro e w2 ⟨rfl, F2, hT, hk, hm⟩
  have HT2 := Hid.mk' hT
  have HX := Hid.mk' (Tg.two HK.out HM.out hk hm)
  clear hT hk hm HT HK HM
  go_wp2
  go_ret
  rw [HXS.out]
  exact ⟨rfl, F2, HT2.out, HX.out.1, HX.out.2⟩

set_option maxRecDepth 100000 in
set_option maxHeartbeats 4000000 in
theorem hap_none (w : World) (q : Nat) (F : Nat → Prop) (s : List UInt8 × Nat) (p : Nat) (h : Tg w q F s p) (h0 : N s ≠ 0) (h1 : N s ≠ 1) (h2 : N s ≠ 2) :
    Calls Tryd.prog 37 #[ptr q] w fun e w' => e = .returned (.iface 97 (.agg #[])) ∧ ∃ F', Tg w' q F' (((M s).1, 1)) p ∧ Keep (fun k => F k ∨ k = q) w w' ∧ Goes w F F' := by
  have C := Hid.mk' (tint w q F s p h)
  have hn0 : asI (N s) ≠ 0 := by
    have := N_lt s
    unfold asI
    split <;> omega
  have hn1 : asI (N s) ≠ 1 := by
    have := N_lt s
    unfold asI
    split <;> omega
  have hn2 : asI (N s) ≠ 2 := by
    have := N_lt s
    unfold asI
    split <;> omega
  obtain ⟨a, ha⟩ : ∃ a, asI (N s) = a := ⟨_, rfl⟩
  rw [ha] at C hn0 hn1 hn2
  clear ha h0 h1 h2
  clear h
  go_enter Tryd.func37, Tryd.ntmps37
  go_wp2_with fail
  refine C.out.mono ?_
  rintro e w1 ⟨rfl, F1, hT, hk, hm⟩
  have HT := Hid.mk' hT
  have HK := Hid.mk' hk
  have HM := Hid.mk' hm
  clear hT hk hm
  have hc1 : ∃ v, w1.cell? ⟨q, 1, none⟩ = some v := ⟨_, cell_at (j := 1) HT.out.blk rfl⟩
  obtain ⟨ve, hc1⟩ := hc1
  have hf1 : w1.frozen? ⟨q, 1, none⟩ = false := by simp [World.frozen?, HT.out.blk]
  have HE := Hid.mk' (Tg.err (M s).1 1 HT.out.blk HT.out.rd HT.out.nF)
  have HK2 : Hid (Keep (fun k => F k ∨ k = q) w (w1.setCell ⟨q, 1, none⟩ (noE 1))) := HK.out.setCell (p := ⟨q, 1, none⟩) (.inl (.inr rfl)) _
  clear HT HK
  go_wp2
  go_ret
  exact ⟨rfl, F1, HE.out, HK2.out, HM.out⟩

end Pe
end Ev
end Go.Proofs.YtnllplholfhbdaaDoor
