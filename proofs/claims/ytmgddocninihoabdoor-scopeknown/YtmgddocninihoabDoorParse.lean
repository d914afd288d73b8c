/- Parse of a book: the set that a text tells, or the first wrong word. -/
import Derived.Test.YtmgddocninihoabDoorWords
namespace Go.Proofs.YtmgddocninihoabDoor
set_option linter.ambiguousOpen false
open Go.RowKit Nm Er
namespace Sc
set_option linter.unusedSimpArgs false
set_option linter.unusedVariables false
attribute [local go_sem] Oper.semAt_some

/-- The words read, from the left on: the set, the error's number, its place. -/
def parseG (l : List (List UInt8)) : Nat → List (Nat × List UInt8) → Nat × Nat × Nat
  | s, [] => (s, 0, 0)
  | s, x :: r => if (readG l x.2).2 = 0 then parseG l (s ||| (readG l x.2).1) r else (0, (readG l x.2).2, x.1)

/-- The error of Parse, as the program holds it. -/
def errP (no k : Nat) : Value := if no = 0 then .nilIface else atV no k

theorem readG_no (l : List (List UInt8)) (h : List UInt8) : (readG l h).2 = 0 ∨ (readG l h).2 = 4 ∨ (readG l h).2 = 10 := by
  unfold readG
  generalize (if starred h then belowS l (bare h) else namedS l (bare h)) = x
  split
  · exact .inl rfl
  · split
    · exact .inr (.inl rfl)
    · split
      · exact .inr (.inr rfl)
      · exact .inl rfl

theorem parseG_lt (l : List (List UInt8)) (h64 : l.length ≤ 64) : ∀ (r : List (Nat × List UInt8)) (s : Nat), s < 18446744073709551616 → (parseG l s r).1 < 18446744073709551616
  | [], s, h => h
  | x :: r, s, h => by
    simp only [parseG]
    split
    · exact parseG_lt l h64 r _ (Nat.or_lt_two_pow (n := 64) h (readG_lt l x.2 h64))
    · show 0 < _; decide

theorem parseG_no (l : List (List UInt8)) : ∀ (r : List (Nat × List UInt8)) (s : Nat), (parseG l s r).2.1 = 0 ∨ ((parseG l s r).1 = 0 ∧ ((parseG l s r).2.1 = 4 ∨ (parseG l s r).2.1 = 10))
  | [], s => .inl rfl
  | x :: r, s => by
    simp only [parseG]
    split
    · exact parseG_no l r _
    · rename_i h
      rcases readG_no l x.2 with e | e | e
      · exact absurd e h
      · exact .inr ⟨rfl, .inl e⟩
      · exact .inr ⟨rfl, .inr e⟩

theorem results_cell2 {fn : Func} {a b : Tmp} {t u : TypeId} (h : fn.results = #[.cell a t, .cell b u]) (tmps : Array Value) (P : Program) (w : World) {p q : Addr} {x y : Value} (ha : tmps.getD a undef = .pointer (some p)) (hb : tmps.getD b undef = .pointer (some q))
    (cx : w.cell? p = some x) (cy : w.cell? q = some y) (nt : (isAgg t).run P w = .ok false w) (nu : (isAgg u).run P w = .ok false w) : (results fn tmps).run P w = .ok (.tuple #[x, y]) w := by
  rw [Array.getD_eq_getD_getElem?] at ha hb
  simp [results, h, ha, hb, loadVar, nt, nu, cx, cy, asAddr, Result.andThen]

theorem isAgg35 (w : World) : (isAgg 28).run Tryd.prog w = .ok false w := by kernel_rfl
theorem isAgg28 (w : World) : (isAgg 31).run Tryd.prog w = .ok false w := by kernel_rfl

theorem Mp.grown {w w' : World} {pb mb : Nat} {l : List (List UInt8)} {row : Option Nat} (h : Mp w pb mb l) (hg : w.grownBy w' row) (h1 : some pb ≠ row) (h2 : some mb ≠ row) : Mp w' pb mb l := by
  refine ⟨(World.cell?_of_block (a := ⟨pb, 0, none⟩) (hg.block pb h.lt.1 h1)).trans h.cell, ?_, h.ne⟩
  obtain ⟨D, hD, ho⟩ := h.own
  exact ⟨D, hD, ho.kept hg h2⟩

set_option maxRecDepth 100000 in
set_option maxHeartbeats 1000000 in
theorem parse_long (pb mb : Nat) (l : List (List UInt8)) (t : List UInt8) (w : World) (hM : Mp w pb mb l) (ht : 4096 < t.length) (hm : t.length ≤ maxLen) :
    Calls Tryd.prog 6 #[.pointer (some ⟨pb, 0, none⟩), .string (B t)] w fun e w' => e = .returned (.tuple #[Bt.st 0, noV 3]) ∧ Below w.heap.size w w' := by
  have hsz : (B t).size = t.length := rfl
  unfold maxLen at hm
  have hb1 : Boxed (((w.alloc (.cells #[.pointer (some ⟨pb, 0, none⟩)] 22)).alloc (.cells #[Bt.st 0] 28)).alloc (.cells #[noV 3] 31)) (w.heap.size + 1) 28 (Bt.st 0) := by
    have := (Boxed.new (w.alloc (.cells #[.pointer (some ⟨pb, 0, none⟩)] 22)) 28 (Bt.st 0)).alloc (.cells #[noV 3] 31)
    simpa using this
  have hb2 : Boxed (((w.alloc (.cells #[.pointer (some ⟨pb, 0, none⟩)] 22)).alloc (.cells #[Bt.st 0] 28)).alloc (.cells #[noV 3] 31)) (w.heap.size + 1 + 1) 31 (noV 3) := by
    have := Boxed.new ((w.alloc (.cells #[.pointer (some ⟨pb, 0, none⟩)] 22)).alloc (.cells #[Bt.st 0] 28)) 31 (noV 3)
    simpa using this
  go_enter Tryd.func6, Tryd.ntmps6
  go_wp2
  refine bodyPost_ret (results_cell2 (x := Bt.st 0) (y := noV 3) rfl _ _ _ rfl rfl hb1.cell hb2.cell (isAgg35 _) (isAgg28 _)) rfl ?_
  exact ⟨rfl, (((Below.refl _ w).alloc (Nat.le_refl _) _).alloc (by simp) _).alloc (by simp; omega) _⟩

/-- What holds in the loop behind some words. -/
structure PI (w : World) (pb mb : Nat) (l : List (List UInt8)) (pre : List (Nat × List UInt8)) (s : Nat) (W : World) : Prop where
  b0 : Boxed W w.heap.size 22 (.pointer (some ⟨pb, 0, none⟩))
  b1 : Boxed W (w.heap.size + 1) 28 (Bt.st 0)
  b2 : Boxed W (w.heap.size + 1 + 1) 31 .nilIface
  b3 : Boxed W (w.heap.size + 1 + 1 + 1) 28 (Bt.st s)
  mp : Mp W pb mb l
  bel : Below w.heap.size w W
  lt : s < 18446744073709551616
  acc : ∀ rest, parseG l 0 (pre ++ rest) = parseG l s rest

theorem PI.grown {w : World} {pb mb : Nat} {l : List (List UInt8)} {pre : List (Nat × List UInt8)} {s : Nat} {W W' : World} {row : Option Nat} (h : PI w pb mb l pre s W) (hg : W.grownBy W' row) (hpb : pb < w.heap.size) (hmb : mb < w.heap.size) (hr : ∀ r, row = some r → w.heap.size + 4 ≤ r) : PI w pb mb l pre s W' := by
  have ne : ∀ b, b < w.heap.size + 4 → some b ≠ row := fun b hb e => by have := hr b e.symm; omega
  exact ⟨h.b0.kept hg (ne _ (by omega)), h.b1.kept hg (ne _ (by omega)), h.b2.kept hg (ne _ (by omega)), h.b3.kept hg (ne _ (by omega)), h.mp.grown hg (ne _ (by omega)) (ne _ (by omega)),
    h.bel.grown hg h.bel.size (fun r e => by have := hr r e; omega), h.lt, h.acc⟩

/-- What holds where a wrong word was met. -/
structure PX (w : World) (l : List (List UInt8)) (t : List UInt8) (W : World) : Prop where
  bad : ∃ no k, parseG l 0 (wordsL 0 t) = (0, no, k) ∧ no ≠ 0 ∧ Boxed W (w.heap.size + 1 + 1) 31 (atV no k)
  b1 : Boxed W (w.heap.size + 1) 28 (Bt.st 0)
  bel : Below w.heap.size w W

theorem PX.grown {w : World} {l : List (List UInt8)} {t : List UInt8} {W W' : World} {row : Option Nat} (h : PX w l t W) (hg : W.grownBy W' row) (hr : ∀ r, row = some r → w.heap.size + 4 ≤ r) : PX w l t W' := by
  have ne : ∀ b, b < w.heap.size + 4 → some b ≠ row := fun b hb e => by have := hr b e.symm; omega
  obtain ⟨⟨no, k, h1, h2, h3⟩, h4, h5⟩ := h
  exact ⟨⟨no, k, h1, h2, h3.kept hg (ne _ (by omega))⟩, h4.kept hg (ne _ (by omega)), h5.grown hg h5.size (fun r e => by have := hr r e; omega)⟩

theorem wordsN_len : ∀ (n k : Nat) (t : List UInt8) (x : Nat × List UInt8), x ∈ wordsN n k t → x.2.length ≤ t.length ∧ x.2 ≠ [] ∧ k ≤ x.1 ∧ x.1 + x.2.length ≤ k + t.length
  | 0, _, _, x, h => by simp [wordsN] at h
  | n + 1, k, t, x, h => by
    simp only [wordsN] at h
    split at h
    · simp at h
    · have hl := hb_len t
      rcases List.mem_append.1 h with h1 | h1
      · split at h1
        · simp at h1
        · rename_i hz
          rw [List.mem_singleton.1 h1]
          exact ⟨hl, hz, Nat.le_refl _, by show k + (hb t).length ≤ _; omega⟩
      · have := wordsN_len n _ _ x h1
        rw [List.length_drop] at this
        have hp := List.length_pos_iff.2 this.2.1
        exact ⟨by omega, this.2.1, by omega, by omega⟩

set_option maxRecDepth 1000000 in
set_option maxHeartbeats 4000000 in
theorem parse_s (pb mb : Nat) (l : List (List UInt8)) (t : List UInt8) (w : World) (hM : Mp w pb mb l) (ht : t.length ≤ 4096) :
    Calls Tryd.prog 6 #[.pointer (some ⟨pb, 0, none⟩), .string (B t)] w fun e w' => e = .returned (.tuple #[Bt.st (parseG l 0 (wordsL 0 t)).1, errP (parseG l 0 (wordsL 0 t)).2.1 (parseG l 0 (wordsL 0 t)).2.2]) ∧ Below w.heap.size w w' := by
  have hsz : (B t).size = t.length := rfl
  have hpb := hM.lt.1
  have hmb := hM.lt.2
  have h64 := hM.most
  refine (callsIn_wide (n := 8)).1 ?_
  refine callsIn_of_wp_marks Tryd.func6 rfl trivial ?_ rfl
  refine wpIn_wide.2 ?_
  simp only [Tryd.ntmps6, List.size_toArray, List.length_cons, List.length_nil, Nat.reduceAdd, Nat.reduceSub, Array.replicate_succ, Array.replicate_zero, List.push_toArray, List.append_toArray, List.nil_append, List.cons_append]
  go_wp2_with fail
  refine (wordsMake t _).mono ?_
  rintro e w1 ⟨rfl, rfl⟩
  go_wp2_with fail
  have hs0 : (((((w.alloc (.cells #[.pointer (some ⟨pb, 0, none⟩)] 22)).alloc (.cells #[Bt.st 0] 28)).alloc (.cells #[.nilIface] 31)).alloc (.cells #[Bt.st 0] 28)).alloc (.cells #[.string (B t)] 9)).heap.size = w.heap.size + 5 := by simp
  have q0 : Boxed (((((w.alloc (.cells #[.pointer (some ⟨pb, 0, none⟩)] 22)).alloc (.cells #[Bt.st 0] 28)).alloc (.cells #[.nilIface] 31)).alloc (.cells #[Bt.st 0] 28)).alloc (.cells #[.string (B t)] 9)) w.heap.size 22 (.pointer (some ⟨pb, 0, none⟩)) := ((((Boxed.new w _ _).alloc _).alloc _).alloc _).alloc _
  have q1 : Boxed (((((w.alloc (.cells #[.pointer (some ⟨pb, 0, none⟩)] 22)).alloc (.cells #[Bt.st 0] 28)).alloc (.cells #[.nilIface] 31)).alloc (.cells #[Bt.st 0] 28)).alloc (.cells #[.string (B t)] 9)) (w.heap.size + 1) 28 (Bt.st 0) := by
    have := (((Boxed.new (w.alloc (.cells #[.pointer (some ⟨pb, 0, none⟩)] 22)) 28 (Bt.st 0)).alloc (.cells #[.nilIface] 31)).alloc (.cells #[Bt.st 0] 28)).alloc (.cells #[.string (B t)] 9)
    simpa using this
  have q2 : Boxed (((((w.alloc (.cells #[.pointer (some ⟨pb, 0, none⟩)] 22)).alloc (.cells #[Bt.st 0] 28)).alloc (.cells #[.nilIface] 31)).alloc (.cells #[Bt.st 0] 28)).alloc (.cells #[.string (B t)] 9)) (w.heap.size + 1 + 1) 31 .nilIface := by
    have := ((Boxed.new ((w.alloc (.cells #[.pointer (some ⟨pb, 0, none⟩)] 22)).alloc (.cells #[Bt.st 0] 28)) 31 .nilIface).alloc (.cells #[Bt.st 0] 28)).alloc (.cells #[.string (B t)] 9)
    simpa using this
  have q3 : Boxed (((((w.alloc (.cells #[.pointer (some ⟨pb, 0, none⟩)] 22)).alloc (.cells #[Bt.st 0] 28)).alloc (.cells #[.nilIface] 31)).alloc (.cells #[Bt.st 0] 28)).alloc (.cells #[.string (B t)] 9)) (w.heap.size + 1 + 1 + 1) 28 (Bt.st 0) := by
    have := (Boxed.new (((w.alloc (.cells #[.pointer (some ⟨pb, 0, none⟩)] 22)).alloc (.cells #[Bt.st 0] 28)).alloc (.cells #[.nilIface] 31)) 28 (Bt.st 0)).alloc (.cells #[.string (B t)] 9)
    simpa using this
  have q4 : Boxed (((((w.alloc (.cells #[.pointer (some ⟨pb, 0, none⟩)] 22)).alloc (.cells #[Bt.st 0] 28)).alloc (.cells #[.nilIface] 31)).alloc (.cells #[Bt.st 0] 28)).alloc (.cells #[.string (B t)] 9)) (w.heap.size + 1 + 1 + 1 + 1) 9 (.string (B t)) := by
    have := Boxed.new ((((w.alloc (.cells #[.pointer (some ⟨pb, 0, none⟩)] 22)).alloc (.cells #[Bt.st 0] 28)).alloc (.cells #[.nilIface] 31)).alloc (.cells #[Bt.st 0] 28)) 9 (.string (B t))
    simpa using this
  have hB0 : Below w.heap.size w (((((w.alloc (.cells #[.pointer (some ⟨pb, 0, none⟩)] 22)).alloc (.cells #[Bt.st 0] 28)).alloc (.cells #[.nilIface] 31)).alloc (.cells #[Bt.st 0] 28)).alloc (.cells #[.string (B t)] 9)) := (((((Below.refl _ w).alloc (Nat.le_refl _) _).alloc (by simp) _).alloc (by simp; omega) _).alloc (by simp; omega) _).alloc (by simp; omega) _
  have hM0 := hM.kept hB0
  generalize (((((w.alloc (.cells #[.pointer (some ⟨pb, 0, none⟩)] 22)).alloc (.cells #[Bt.st 0] 28)).alloc (.cells #[.nilIface] 31)).alloc (.cells #[Bt.st 0] 28)).alloc (.cells #[.string (B t)] 9)) = W0 at *
  refine Rf.wp_range (L := wordsL 0 t) (w0 := W0) rfl (enters_of Tryd.func28 (by kernel_rfl) rfl)
    (words_seq t (w.heap.size + 1 + 1 + 1 + 1) W0 ht q4.cell q4.lt) (Below.refl _ _) (fun _ => rfl) (fun b hb => by subst hb; omega)
    (fun pre W' => ∃ s, PI w pb mb l pre s W') (fun c pre W' => c = .ret ∧ PX w l t W') ?rest ?restx
    ⟨0, q0, q1, q2, q3, hM0, hB0, by decide, fun rest => rfl⟩
    (fun x => { tmps := #[.pointer (some ⟨pb, 0, none⟩), .string (B t), .pointer (some ⟨w.heap.size, 0, none⟩), undef, .pointer (some ⟨w.heap.size + 1, 0, none⟩), .pointer (some ⟨w.heap.size + 1 + 1, 0, none⟩), .pointer (some ⟨w.heap.size + 1 + 1 + 1, 0, none⟩), .int .i64 (x.1 : Int), .string (B x.2), undef, undef, .string (B t), .int .i64 (t.length : Int), .bool (decide ((4096 : Int) < (t.length : Int))), undef, .string (B t), .func (.func 28) #[] #[.pointer (some ⟨w.heap.size + 1 + 1 + 1 + 1, 0, none⟩)], .int .i64 (x.1 : Int), .string (B x.2), undef, undef, undef, undef, undef, undef, undef, undef, undef, undef, undef, undef, undef, undef, undef, undef], defers := [] }) ?assign ?body ?done ?stop
  case rest =>
    rintro pre A C row ⟨s, h⟩ hg hr
    exact ⟨s, h.grown hg hpb hmb (fun r e => by have := (hr r e).1; omega)⟩
  case restx =>
    rintro c pre A C row ⟨rfl, h⟩ hg hr
    exact ⟨rfl, h.grown hg (fun r e => by have := (hr r e).1; omega)⟩
  case assign =>
    intro l' x W2 K hK
    gi_wp2
    exact hK
  case body =>
    rintro l' pre x W2 hpre hsz2 ⟨s, h⟩
    obtain ⟨k, hw⟩ := x
    have hmem : (k, hw) ∈ wordsL 0 t := hpre.subset (by simp)
    have hin := wordsN_len _ _ _ _ hmem
    have hwl : hw.length ≤ maxLen := by have := hin.1; unfold maxLen; show hw.length ≤ _; simp only at this; omega
    have c0 := h.b0.cell
    have c3 := h.b3.cell
    have cr := read_s pb mb l hw W2 h.mp hwl
    gi_wp2_with fail
    refine ⟨trivial, CallsIn.inRound l' (callsIn_wide.2 cr) |>.mono ?_⟩
    rintro e W3 ⟨rfl, hb3⟩
    have hz2 := h.b3.lt
    have hg3 := grown_of_below hb3
    have h3 := h.grown hg3 hpb hmb (fun r e => by cases e)
    have d1 := h3.b1.cell
    have d2 := h3.b2.cell
    have d3 := h3.b3.cell
    have g1 := h3.b1.frozen
    have g2 := h3.b2.frozen
    have g3 := h3.b3.frozen
    have hsl := h.lt
    have hL3 : Rf.Leaves (fun b => b = w.heap.size + 1 + 1 + 1 + 1) W0.heap.size (W0.heap.size + 2 + 0) W2 W3 := Rf.Leaves.grown hg3 (fun r e => by cases e)
    obtain ⟨rest, hrest⟩ := hpre
    have HR : Hid (wordsL 0 t = (pre ++ [(k, hw)]) ++ rest) := hrest.symm
    have hxl := readG_lt l hw h64
    have HA : Hid (∀ rest, parseG l 0 (pre ++ rest) = parseG l s rest) := h.acc
    clear hrest
    by_cases hz : (readG l hw).2 = 0
    · have HS : Hid (∀ rest, parseG l 0 ((pre ++ [(k, hw)]) ++ rest) = parseG l (s ||| (readG l hw).1) rest) := fun rest => by
        rw [List.append_assoc, HA.out]
        simp [parseG, hz]
      have hzi : (((readG l hw).2 : Nat) : Int) = 0 := by omega
      rw [hzi]
      clear hz hzi
      generalize (readG l hw).1 = x at *
      have cj : Hid (∀ w1, Calls Tryd.prog 14 #[Bt.st s, Bt.st x] w1 fun e w' => e = .returned (Bt.st (s ||| x)) ∧ w' = w1) := fun w1 => Bt.join_any _ _ w1 hsl hxl
      gi_wp2_with fail
      refine ⟨trivial, CallsIn.inRound l' (callsIn_wide.2 (cj.out _)) |>.mono ?_⟩
      rintro e W4 ⟨rfl, rfl⟩
      gi_wp2
      have hgs := grownBy_setCell' W4 (w.heap.size + 1 + 1 + 1) (Bt.st (s ||| x))
      have ne : ∀ b, b ≠ w.heap.size + 1 + 1 + 1 → some b ≠ some (w.heap.size + 1 + 1 + 1) := fun b hb e => hb (Option.some.inj e)
      refine ⟨hL3.trans (Rf.Leaves.grown hgs (fun r e => by cases e; exact ⟨by omega, .inl (by omega)⟩)), s ||| x, h3.b0.kept hgs (ne _ (by omega)), h3.b1.kept hgs (ne _ (by omega)), h3.b2.kept hgs (ne _ (by omega)), h3.b3.set _, h3.mp.grown hgs (ne _ (by omega)) (ne _ (by omega)), h3.bel.grown hgs h3.bel.size (fun r e => by cases e; omega), Nat.or_lt_two_pow (n := 64) hsl hxl, HS.out⟩
    · have HS : Hid (parseG l 0 (wordsL 0 t) = (0, (readG l hw).2, k)) := by
        show _ = _
        rw [HR.out, List.append_assoc, HA.out]
        simp [parseG, hz]
      have hzi : ((((readG l hw).2 : Nat) : Int) != 0) = true := by rw [bne_iff_ne]; omega
      have HZ : Hid ((readG l hw).2 ≠ 0) := hz
      clear hz
      generalize (readG l hw).2 = no at *
      gi_wp2
      have hg4 := grownBy_setCell' W3 (w.heap.size + 1) (Bt.st 0)
      have hg5 := grownBy_setCell' (W3.setCell ⟨w.heap.size + 1, 0, none⟩ (Bt.st 0)) (w.heap.size + 1 + 1) (atV no k)
      refine ⟨(hL3.trans (Rf.Leaves.grown hg4 (fun r e => by cases e; exact ⟨by omega, .inl (by omega)⟩))).trans (Rf.Leaves.grown hg5 (fun r e => by cases e; exact ⟨by omega, .inl (by omega)⟩)), rfl, ⟨no, k, HS.out, HZ.out, (h3.b2.other (by omega) _).set _⟩, (h3.b1.set _).other (by omega) _, ?_⟩
      exact (h3.bel.setCell (by show w.heap.size ≤ w.heap.size + 1; omega) _).setCell (by show w.heap.size ≤ w.heap.size + 1 + 1; omega) _
  case done =>
    rintro W2 ⟨s, h⟩ hK
    have c1 := h.b1.cell
    have c2 := h.b2.cell
    have c3 := h.b3.cell
    have f1 := h.b1.frozen
    have f2 := h.b2.frozen
    go_wp2
    have hk1 : ((W2.setCell ⟨w.heap.size + 1, 0, none⟩ (Bt.st s)).setCell ⟨w.heap.size + 1 + 1, 0, none⟩ .nilIface).heap[W0.heap.size]? = some (.deferred (some [])) := by
      have g1 := (grownBy_setCell' W2 (w.heap.size + 1) (Bt.st s)).block W0.heap.size (Array.getElem?_eq_some_iff.1 hK).1 (fun e => by have := Option.some.inj e; omega)
      have g2 := (grownBy_setCell' (W2.setCell ⟨w.heap.size + 1, 0, none⟩ (Bt.st s)) (w.heap.size + 1 + 1) .nilIface).block W0.heap.size (by rw [g1.trans hK |> Array.getElem?_eq_some_iff.1 |>.1 |> fun h => h |> eq_true]; trivial) (fun e => by have := Option.some.inj e; omega)
      exact g2.trans (g1.trans hK)
    refine ⟨by simp, .inl ⟨_, _, rfl, run_takeDeferred hk1, ?_⟩⟩
    have hgp := grownBy_putObj' ((W2.setCell ⟨w.heap.size + 1, 0, none⟩ (Bt.st s)).setCell ⟨w.heap.size + 1 + 1, 0, none⟩ .nilIface) W0.heap.size (.deferred none)
    have e1 := ((h.b1.set (Bt.st s)).other (B' := w.heap.size + 1 + 1) (by omega) .nilIface).kept hgp (fun e => by have := Option.some.inj e; omega)
    have e2 := ((h.b2.other (B' := w.heap.size + 1) (by omega) (Bt.st s)).set .nilIface).kept hgp (fun e => by have := Option.some.inj e; omega)
    have hacc := h.acc []
    rw [List.append_nil] at hacc
    have hbel := ((h.bel.setCell (p := ⟨w.heap.size + 1, 0, none⟩) (by show w.heap.size ≤ w.heap.size + 1; omega) (Bt.st s)).setCell (p := ⟨w.heap.size + 1 + 1, 0, none⟩) (by show w.heap.size ≤ w.heap.size + 1 + 1; omega) .nilIface)
    refine ⟨_, results_cell2 (x := Bt.st s) (y := .nilIface) rfl _ _ _ rfl rfl e1.cell e2.cell (isAgg35 _) (isAgg28 _), ?_, hbel.grown hgp hbel.size (fun r e => by cases e; omega)⟩
    rw [hacc]; rfl
  case stop =>
    rintro c pre W2 hpre ⟨rfl, h⟩ hK
    obtain ⟨⟨no, k, h1, h2, h3⟩, h4, h5⟩ := h
    go_wp2
    refine ⟨by simp, .inl ⟨_, _, rfl, run_takeDeferred hK, ?_⟩⟩
    have hgp := grownBy_putObj' W2 W0.heap.size (.deferred none)
    have e1 := h4.kept hgp (fun e => by have := Option.some.inj e; omega)
    have e2 := h3.kept hgp (fun e => by have := Option.some.inj e; omega)
    refine ⟨_, results_cell2 (x := Bt.st 0) (y := atV no k) rfl _ _ _ rfl rfl e1.cell e2.cell (isAgg35 _) (isAgg28 _), ?_, h5.grown hgp h5.size (fun r e => by cases e; omega)⟩
    rw [h1]
    simp [errP, h2]
end Sc
end Go.Proofs.YtmgddocninihoabDoor
