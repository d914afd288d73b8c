import Derived.Test.YtnllplholfhbdaaDoorTakE11
/- The program's Decode. -/
namespace Go.Proofs.YtnllplholfhbdaaDoor
set_option linter.ambiguousOpen false
open Go.RowKit
namespace Ev
namespace Pe
open Pk Sm Ft
open Pk.Pp (RW RR)
set_option linter.unusedSimpArgs false
set_option linter.unusedVariables false

/-- It is put into a variable. -/
def putE (w : World) (b : Nat) (e : Evt) : World := ((((((((((((((w.setCell ⟨b, 0, none⟩ (nu e.kind)).setCell ⟨b, 1, none⟩ (nu e.s.slot)).setCell ⟨b, 2, none⟩ (nu e.s.birth)).setCell ⟨b, 3, none⟩ (nu e.s.us)).setCell ⟨b, 4, none⟩ (nu e.s.ub)).setCell ⟨b, 5, none⟩ (nu e.s.kind)).setCell ⟨b, 6, none⟩ (.string (tx e.s.user))).setCell ⟨b, 7, none⟩ (.string (tx e.s.label))).setCell ⟨b, 8, none⟩ (.int .u64 e.s.scopes)).setCell ⟨b, 9, none⟩ (nu e.s.level)).setCell ⟨b, 10, none⟩ (nu e.s.born)).setCell ⟨b, 11, none⟩ (nu e.s.deadline)).setCell ⟨b, 12, none⟩ (nu e.s.depth)).setCell ⟨b, 13, none⟩ (nu e.birth)).setCell ⟨b, 14, none⟩ (nu e.ticks)

theorem putE_heap {w : World} {b : Nat} {z : Evt} (e : Evt) (h : w.heap[b]? = some (.cells z.arr 29 (0, 0))) : (putE w b e).heap[b]? = some (.cells e.arr 29 (0, 0)) := by
  have h0 := heap_setCell_same _ b 0 _ _ (nu e.kind) h
  have h1 := heap_setCell_same _ b 1 _ _ (nu e.s.slot) h0
  have h2 := heap_setCell_same _ b 2 _ _ (nu e.s.birth) h1
  have h3 := heap_setCell_same _ b 3 _ _ (nu e.s.us) h2
  have h4 := heap_setCell_same _ b 4 _ _ (nu e.s.ub) h3
  have h5 := heap_setCell_same _ b 5 _ _ (nu e.s.kind) h4
  have h6 := heap_setCell_same _ b 6 _ _ (.string (tx e.s.user)) h5
  have h7 := heap_setCell_same _ b 7 _ _ (.string (tx e.s.label)) h6
  have h8 := heap_setCell_same _ b 8 _ _ (.int .u64 e.s.scopes) h7
  have h9 := heap_setCell_same _ b 9 _ _ (nu e.s.level) h8
  have h10 := heap_setCell_same _ b 10 _ _ (nu e.s.born) h9
  have h11 := heap_setCell_same _ b 11 _ _ (nu e.s.deadline) h10
  have h12 := heap_setCell_same _ b 12 _ _ (nu e.s.depth) h11
  have h13 := heap_setCell_same _ b 13 _ _ (nu e.birth) h12
  have h14 := heap_setCell_same _ b 14 _ _ (nu e.ticks) h13
  unfold putE
  refine h14.trans (congrArg (fun c => some (Obj.cells c 29 (0, 0))) ?_)
  simp only [Evt.arr, List.setIfInBounds_toArray, List.set]

theorem putE_other {w : World} {b k : Nat} (e : Evt) (hk : k ≠ b) : (putE w b e).heap[k]? = w.heap[k]? := by
  unfold putE
  simp only [heap_setCell_other _ _ _ _ (show k ≠ (⟨b, _, none⟩ : Addr).block from hk)]

theorem putE_keep {w0 w : World} {G : Nat → Prop} {b : Nat} (e : Evt) (h : Keep G w0 w) (hb : G b ∨ w0.heap.size ≤ b) : Keep G w0 (putE w b e) := by
  unfold putE
  iterate 15 (refine Keep.setCell ?_ hb _)
  exact h

theorem sizeE (e : Evt) : (Tryd.prog.info? 29).map (·.size) = some e.arr.size := by
  show _ = some 15
  kernel_rfl

theorem results_evt {fn : Func} {p u : Tmp} (h : fn.results = #[.cell p 29, .tmp u]) (tmps : Array Value) (w : World) (g : Nat) (e : Evt)
    (hp : tmps.getD p undef = .pointer (some ⟨g, 0, none⟩)) (hg : w.heap[g]? = some (.cells e.arr 29 (0, 0))) :
    (results fn tmps).run Tryd.prog w = .ok (.tuple #[.agg e.arr, tmps.getD u undef]) w := by
  rw [results_cell_tmp h, hp]
  simp only [asAddr, Sem.run_pure, Result.andThen_ok, run_loadVar_row w g _ 29 _ _ _ hg Tryd.underlying29 rfl (sizeE e)]

theorem setCell_self {w : World} {b o : Nat} {cs : Array Value} {t : TypeId} {fr : Nat × Nat} {v : Value} (h : w.heap[b]? = some (.cells cs t fr)) (hv : cs[o]? = some v) : w.setCell ⟨b, o, none⟩ v = w := by
  obtain ⟨hb, e⟩ := Array.getElem?_eq_some_iff.1 h
  obtain ⟨ho, eo⟩ := Array.getElem?_eq_some_iff.1 hv
  have e1 : (w.setCell ⟨b, o, none⟩ v).heap = w.heap := by
    unfold World.setCell
    apply Array.ext
    · simp
    · intro i h1 h2
      simp only [Array.getElem_modify]
      split
      · rename_i q
        subst q
        rw [e]
        simp only [Option.isSome_none, Bool.false_eq_true, if_false, Obj.cells.injEq, and_true]
        apply Array.ext
        · simp
        · intro j k1 k2
          rw [Array.getElem_setIfInBounds]
          split
          · rename_i q2; subst q2; exact eo.symm
          · rfl
      · rfl
  show ({ w with heap := (w.setCell ⟨b, o, none⟩ v).heap } : World) = w
  rw [e1]

theorem frz_of {w : World} {sb : Nat} {xs : Array Value} {t : TypeId} (h : w.heap[sb]? = some (.cells xs t)) (i : Nat) : w.frozen? ⟨sb, i, none⟩ = false := by simp [World.frozen?, h]

theorem putE_below {w0 w : World} {base b : Nat} (e : Evt) (h : Below base w0 w) (hb : base ≤ b) : Below base w0 (putE w b e) := by
  unfold putE
  iterate 15 (refine Below.setCell ?_ hb _)
  exact h

/-- The answer under way: what was taken, the result's block. -/
structure Dq (w wx : World) (q p : Nat) (F : Nat → Prop) (s : List UInt8 × Nat) : Prop where
  tg : Tg wx q F s p
  rblk : wx.heap[w.heap.size]? = some (.cells #[nu 0, nu 0, nu 0, nu 0, nu 0, nu 0, .string ⟨#[]⟩, .string ⟨#[]⟩, .int .u64 0, nu 0, nu 0, nu 0, nu 0, nu 0, nu 0] 29)
  nr : ¬ (F w.heap.size ∨ w.heap.size = q)
  base : ∀ k, F k → w.heap.size ≤ k
  hq : w.heap.size ≤ q
  bel : Below w.heap.size w wx

theorem Dq.call {w wx w' : World} {q p : Nat} {F F' : Nat → Prop} {s s' : List UInt8 × Nat} (h : Dq w wx q p F s) (ht : Tg w' q F' s' p) (hk : Keep (fun k => F k ∨ k = q) wx w') (hm : Goes wx F F') : Dq w w' q p F' s' := by
  have hl := (Array.getElem?_eq_some_iff.1 h.rblk).1
  have hF : ∀ k, (F k ∨ k = q) → w.heap.size ≤ k := fun k hk => hk.elim (h.base k) (fun e => by have := h.hq; omega)
  refine ⟨ht, hk.at h.rblk h.nr, ?_, goesF h.bel h.base hm, h.hq, Keep.belowF h.bel hk hF⟩
  rintro (hf | hf)
  · rcases hm _ hf with h1 | h1
    · exact h.nr (.inl h1)
    · omega
  · exact h.nr (.inr hf)

theorem Dq.below {w wx w' : World} {q p : Nat} {F : Nat → Prop} {s : List UInt8 × Nat} (h : Dq w wx q p F s) (hb : Below wx.heap.size wx w') : Dq w w' q p F s :=
  h.call (h.tg.keep (Keep.of_below (F := fun _ => False) hb) (fun h => h) (fun _ _ h => h)) (Keep.of_below hb) (Goes.refl _ _)

theorem Dq.err {w wx : World} {q p : Nat} {F : Nat → Prop} {s : List UInt8 × Nat} (h : Dq w wx q p F s) (no : Nat) (v : Value) (hv : errE no = v) : Dq w (wx.setCell ⟨q, 1, none⟩ v) q p F (s.1, no) := by
  subst hv
  exact h.call (Tg.err s.1 no h.tg.blk h.tg.rd h.tg.nF) ((Keep.refl _ _).setCell (p := ⟨q, 1, none⟩) (.inl (.inr rfl)) _) (Goes.refl _ _)

theorem Dq.start {w x1 : World} {p : Nat} {F : Nat → Prop} {b : List UInt8} (hr : RR x1 p F b) (hF : ∀ k, F k → (w.alloc (.cells #[nu 0, nu 0, nu 0, nu 0, nu 0, nu 0, .string ⟨#[]⟩, .string ⟨#[]⟩, .int .u64 0, nu 0, nu 0, nu 0, nu 0, nu 0, nu 0] 29)).heap.size ≤ k) (hb : Below (w.alloc (.cells #[nu 0, nu 0, nu 0, nu 0, nu 0, nu 0, .string ⟨#[]⟩, .string ⟨#[]⟩, .int .u64 0, nu 0, nu 0, nu 0, nu 0, nu 0, nu 0] 29)).heap.size (w.alloc (.cells #[nu 0, nu 0, nu 0, nu 0, nu 0, nu 0, .string ⟨#[]⟩, .string ⟨#[]⟩, .int .u64 0, nu 0, nu 0, nu 0, nu 0, nu 0, nu 0] 29)) x1) : Dq w (x1.alloc (.cells #[ptr p, .nilIface] 81)) x1.heap.size p F (b, 0) := by
  have s1 : (w.alloc (.cells #[nu 0, nu 0, nu 0, nu 0, nu 0, nu 0, .string ⟨#[]⟩, .string ⟨#[]⟩, .int .u64 0, nu 0, nu 0, nu 0, nu 0, nu 0, nu 0] 29)).heap.size = w.heap.size + 1 := by simp
  have hs := hb.size
  rw [s1] at hF hs
  have hK : Keep (fun _ => False) x1 (x1.alloc (.cells #[ptr p, .nilIface] 81)) := (Keep.refl _ _).alloc _
  have hrb : x1.heap[w.heap.size]? = some (.cells #[nu 0, nu 0, nu 0, nu 0, nu 0, nu 0, .string ⟨#[]⟩, .string ⟨#[]⟩, .int .u64 0, nu 0, nu 0, nu 0, nu 0, nu 0, nu 0] 29) := (hb.block _ (by omega)).trans (heap_alloc_new _ _)
  have hB0 : Below w.heap.size w (w.alloc (.cells #[nu 0, nu 0, nu 0, nu 0, nu 0, nu 0, .string ⟨#[]⟩, .string ⟨#[]⟩, .int .u64 0, nu 0, nu 0, nu 0, nu 0, nu 0, nu 0] 29)) := (Below.refl _ _).alloc (Nat.le_refl _) _
  have hB1 : Below w.heap.size w x1 := hB0.trans (hb.mono (by omega))
  refine ⟨⟨heap_alloc_new _ _, Pk.Pp.keepR hr hK (fun _ _ h => h), fun hf => absurd (Pk.Pp.ltR hr _ hf) (Nat.lt_irrefl _)⟩, hK.at hrb (fun h => h), ?_, fun k hk => by have := hF k hk; omega, by omega, hB1.alloc hB1.size _⟩
  rintro (hf | hf)
  · have := hF _ hf
    omega
  · omega

set_option maxRecDepth 100000 in
set_option maxHeartbeats 8000000 in
theorem dec_err (w : World) (v : Value) (b : List UInt8) (hR : RdB w v b) (hl : b.length ≤ 65537) (tid : TypeId) (x : Value) (s : List UInt8 × Nat) (cH : ∀ wx q F p, Tg wx q F (b, 0) p → Calls Tryd.prog 37 #[ptr q] wx fun e w' => e = .returned (.iface tid x) ∧ ∃ F', Tg w' q F' s p ∧ Keep (fun k => F k ∨ k = q) wx w' ∧ Goes wx F F') (n : Nat) (hs : s.2 = n + 1) :
    Calls Tryd.prog 14 #[v] w fun e w' => e = .returned (.tuple #[.agg Evt.zero.arr, noE ((n + 1 : Nat) : Int)]) ∧ Below w.heap.size w w' := by
  have hw1 : RdB (w.alloc (.cells #[nu 0, nu 0, nu 0, nu 0, nu 0, nu 0, .string ⟨#[]⟩, .string ⟨#[]⟩, .int .u64 0, nu 0, nu 0, nu 0, nu 0, nu 0, nu 0] 29)) v b := hR.below ((Below.refl _ _).alloc (Nat.le_refl _) _)
  have cO := Hid.mk' (Pk.Pp.open_any _ v b hw1 (by omega))
  have CH := Hid.mk' cH
  obtain ⟨a, cap, rfl, hrest0⟩ := hR
  clear hrest0 hw1 cH hl
  have HS := Hid.mk' hs
  clear hs
  obtain ⟨z, hz⟩ : ∃ z : Int, ((n + 1 : Nat) : Int) = z := ⟨_, rfl⟩
  have HZ := Hid.mk' hz
  rw [hz]
  clear hz
  go_enter Tryd.func14, Tryd.ntmps14
  go_wp2_with fail
  refine cO.out.mono ?_
  rintro e x1 ⟨p, F, rfl, hr, hF, hb⟩
  have HD0 := Hid.mk' (Dq.start hr hF hb)
  have cH1 := Hid.mk' (CH.out _ _ _ _ HD0.out.tg)
  clear hr hF hb cO CH
  go_wp2_with fail
  refine cH1.out.mono ?_
  rintro e x2 ⟨rfl, F2, ht, hk, hm⟩
  have HD2 := Hid.mk' (HD0.out.call ht hk hm)
  clear ht hk hm HD0 cH1
  have hq1 : x2.cell? ⟨x1.heap.size, 1, none⟩ = some (noE z) := by
    refine cell_at (j := 1) HD2.out.tg.blk ?_
    rw [HS.out, ← HZ.out]
    rfl
  have hrb := HD2.out.rblk
  have z0 := cell_at (j := 0) hrb rfl
  have s0 : x2.setCell ⟨w.heap.size, 0, none⟩ (nu 0) = x2 := setCell_self hrb rfl
  have d0 : x2.drew.setCell ⟨w.heap.size, 0, none⟩ (nu 0) = x2.drew := setCell_self (w := x2.drew) hrb rfl
  have z1 := cell_at (j := 1) hrb rfl
  have s1 : x2.setCell ⟨w.heap.size, 1, none⟩ (nu 0) = x2 := setCell_self hrb rfl
  have d1 : x2.drew.setCell ⟨w.heap.size, 1, none⟩ (nu 0) = x2.drew := setCell_self (w := x2.drew) hrb rfl
  have z2 := cell_at (j := 2) hrb rfl
  have s2 : x2.setCell ⟨w.heap.size, 2, none⟩ (nu 0) = x2 := setCell_self hrb rfl
  have d2 : x2.drew.setCell ⟨w.heap.size, 2, none⟩ (nu 0) = x2.drew := setCell_self (w := x2.drew) hrb rfl
  have z3 := cell_at (j := 3) hrb rfl
  have s3 : x2.setCell ⟨w.heap.size, 3, none⟩ (nu 0) = x2 := setCell_self hrb rfl
  have d3 : x2.drew.setCell ⟨w.heap.size, 3, none⟩ (nu 0) = x2.drew := setCell_self (w := x2.drew) hrb rfl
  have z4 := cell_at (j := 4) hrb rfl
  have s4 : x2.setCell ⟨w.heap.size, 4, none⟩ (nu 0) = x2 := setCell_self hrb rfl
  have d4 : x2.drew.setCell ⟨w.heap.size, 4, none⟩ (nu 0) = x2.drew := setCell_self (w := x2.drew) hrb rfl
  have z5 := cell_at (j := 5) hrb rfl
  have s5 : x2.setCell ⟨w.heap.size, 5, none⟩ (nu 0) = x2 := setCell_self hrb rfl
  have d5 : x2.drew.setCell ⟨w.heap.size, 5, none⟩ (nu 0) = x2.drew := setCell_self (w := x2.drew) hrb rfl
  have z6 := cell_at (j := 6) hrb rfl
  have s6 : x2.setCell ⟨w.heap.size, 6, none⟩ (.string ⟨#[]⟩) = x2 := setCell_self hrb rfl
  have d6 : x2.drew.setCell ⟨w.heap.size, 6, none⟩ (.string ⟨#[]⟩) = x2.drew := setCell_self (w := x2.drew) hrb rfl
  have z7 := cell_at (j := 7) hrb rfl
  have s7 : x2.setCell ⟨w.heap.size, 7, none⟩ (.string ⟨#[]⟩) = x2 := setCell_self hrb rfl
  have d7 : x2.drew.setCell ⟨w.heap.size, 7, none⟩ (.string ⟨#[]⟩) = x2.drew := setCell_self (w := x2.drew) hrb rfl
  have z8 := cell_at (j := 8) hrb rfl
  have s8 : x2.setCell ⟨w.heap.size, 8, none⟩ (.int .u64 0) = x2 := setCell_self hrb rfl
  have d8 : x2.drew.setCell ⟨w.heap.size, 8, none⟩ (.int .u64 0) = x2.drew := setCell_self (w := x2.drew) hrb rfl
  have z9 := cell_at (j := 9) hrb rfl
  have s9 : x2.setCell ⟨w.heap.size, 9, none⟩ (nu 0) = x2 := setCell_self hrb rfl
  have d9 : x2.drew.setCell ⟨w.heap.size, 9, none⟩ (nu 0) = x2.drew := setCell_self (w := x2.drew) hrb rfl
  have z10 := cell_at (j := 10) hrb rfl
  have s10 : x2.setCell ⟨w.heap.size, 10, none⟩ (nu 0) = x2 := setCell_self hrb rfl
  have d10 : x2.drew.setCell ⟨w.heap.size, 10, none⟩ (nu 0) = x2.drew := setCell_self (w := x2.drew) hrb rfl
  have z11 := cell_at (j := 11) hrb rfl
  have s11 : x2.setCell ⟨w.heap.size, 11, none⟩ (nu 0) = x2 := setCell_self hrb rfl
  have d11 : x2.drew.setCell ⟨w.heap.size, 11, none⟩ (nu 0) = x2.drew := setCell_self (w := x2.drew) hrb rfl
  have z12 := cell_at (j := 12) hrb rfl
  have s12 : x2.setCell ⟨w.heap.size, 12, none⟩ (nu 0) = x2 := setCell_self hrb rfl
  have d12 : x2.drew.setCell ⟨w.heap.size, 12, none⟩ (nu 0) = x2.drew := setCell_self (w := x2.drew) hrb rfl
  have z13 := cell_at (j := 13) hrb rfl
  have s13 : x2.setCell ⟨w.heap.size, 13, none⟩ (nu 0) = x2 := setCell_self hrb rfl
  have d13 : x2.drew.setCell ⟨w.heap.size, 13, none⟩ (nu 0) = x2.drew := setCell_self (w := x2.drew) hrb rfl
  have z14 := cell_at (j := 14) hrb rfl
  have s14 : x2.setCell ⟨w.heap.size, 14, none⟩ (nu 0) = x2 := setCell_self hrb rfl
  have d14 : x2.drew.setCell ⟨w.heap.size, 14, none⟩ (nu 0) = x2.drew := setCell_self (w := x2.drew) hrb rfl
  have zf : ∀ i, _ := frz_of hrb
  clear hrb
  have HB := Hid.mk' HD2.out.bel
  have HH := Hid.mk' HD2.out.rblk
  clear HD2
  go_wp2_with fail
  go_region
  go_wp2
  refine bodyPost_ret (results_evt rfl _ _ w.heap.size Evt.zero rfl HH.out) rfl ?_
  exact ⟨rfl, HB.out.drew⟩

set_option maxRecDepth 100000 in
set_option maxHeartbeats 8000000 in
theorem dec_long (w : World) (v : Value) (b : List UInt8) (hR : RdB w v b) (hl : b.length ≤ 65537) (tid : TypeId) (x : Value) (s : List UInt8 × Nat) (cH : ∀ wx q F p, Tg wx q F (b, 0) p → Calls Tryd.prog 37 #[ptr q] wx fun e w' => e = .returned (.iface tid x) ∧ ∃ F', Tg w' q F' s p ∧ Keep (fun k => F k ∨ k = q) wx w' ∧ Goes wx F F') (hs : s.2 = 0) (hs1 : s.1 ≠ []) :
    Calls Tryd.prog 14 #[v] w fun e w' => e = .returned (.tuple #[.agg Evt.zero.arr, noE 3]) ∧ Below w.heap.size w w' := by
  have hw1 : RdB (w.alloc (.cells #[nu 0, nu 0, nu 0, nu 0, nu 0, nu 0, .string ⟨#[]⟩, .string ⟨#[]⟩, .int .u64 0, nu 0, nu 0, nu 0, nu 0, nu 0, nu 0] 29)) v b := hR.below ((Below.refl _ _).alloc (Nat.le_refl _) _)
  have cO := Hid.mk' (Pk.Pp.open_any _ v b hw1 (by omega))
  have CH := Hid.mk' cH
  obtain ⟨a, cap, rfl, hrest0⟩ := hR
  clear hrest0 hw1 cH hl
  have HS := Hid.mk' hs
  have HS1 := Hid.mk' hs1
  clear hs hs1
  go_enter Tryd.func14, Tryd.ntmps14
  go_wp2_with fail
  refine cO.out.mono ?_
  rintro e x1 ⟨p, F, rfl, hr, hF, hb⟩
  have HD0 := Hid.mk' (Dq.start hr hF hb)
  have cH1 := Hid.mk' (CH.out _ _ _ _ HD0.out.tg)
  clear hr hF hb cO CH
  go_wp2_with fail
  refine cH1.out.mono ?_
  rintro e x2 ⟨rfl, F2, ht, hk, hm⟩
  have HD2 := Hid.mk' (HD0.out.call ht hk hm)
  clear ht hk hm HD0 cH1
  have hq0 : x2.cell? ⟨x1.heap.size, 0, none⟩ = some (ptr p) := cell_at (j := 0) HD2.out.tg.blk rfl
  have hq1 : x2.cell? ⟨x1.heap.size, 1, none⟩ = some .nilIface := by
    refine cell_at (j := 1) HD2.out.tg.blk ?_
    rw [HS.out]
    rfl
  have cE : Hid (Calls Tryd.prog 38 #[ptr p] x2 fun e w' => e = .returned (noE 3) ∧ Below x2.heap.size x2 w') := by
    have := Pk.Pp.end_rw x2 p F2 s.1 HD2.out.tg.rd
    rw [if_neg (fun h => HS1.out (List.length_eq_zero_iff.1 h))] at this
    exact this
  go_wp2_with fail
  refine cE.out.mono ?_
  rintro e x3 ⟨rfl, hb⟩
  have hD3 := HD2.out.below hb
  have HD4 := Hid.mk' (hD3.err 3 (noE 3) rfl)
  have hq3 : x3.cell? ⟨x1.heap.size, 1, none⟩ = some .nilIface := by
    refine cell_at (j := 1) hD3.tg.blk ?_
    rw [HS.out]
    rfl
  have hf3 : x3.frozen? ⟨x1.heap.size, 1, none⟩ = false := by simp [World.frozen?, hD3.tg.blk]
  clear hb hD3 HD2 cE hq0 hq1
  go_upto_region 5 with fail
  generalize x3.setCell ⟨x1.heap.size, 1, none⟩ (noE 3) = x4 at *
  clear hq3 hf3
  have hq1 : x4.cell? ⟨x1.heap.size, 1, none⟩ = some (noE 3) := cell_at (j := 1) HD4.out.tg.blk rfl
  have hrb := HD4.out.rblk
  have z0 := cell_at (j := 0) hrb rfl
  have s0 : x4.setCell ⟨w.heap.size, 0, none⟩ (nu 0) = x4 := setCell_self hrb rfl
  have d0 : x4.drew.setCell ⟨w.heap.size, 0, none⟩ (nu 0) = x4.drew := setCell_self (w := x4.drew) hrb rfl
  have z1 := cell_at (j := 1) hrb rfl
  have s1 : x4.setCell ⟨w.heap.size, 1, none⟩ (nu 0) = x4 := setCell_self hrb rfl
  have d1 : x4.drew.setCell ⟨w.heap.size, 1, none⟩ (nu 0) = x4.drew := setCell_self (w := x4.drew) hrb rfl
  have z2 := cell_at (j := 2) hrb rfl
  have s2 : x4.setCell ⟨w.heap.size, 2, none⟩ (nu 0) = x4 := setCell_self hrb rfl
  have d2 : x4.drew.setCell ⟨w.heap.size, 2, none⟩ (nu 0) = x4.drew := setCell_self (w := x4.drew) hrb rfl
  have z3 := cell_at (j := 3) hrb rfl
  have s3 : x4.setCell ⟨w.heap.size, 3, none⟩ (nu 0) = x4 := setCell_self hrb rfl
  have d3 : x4.drew.setCell ⟨w.heap.size, 3, none⟩ (nu 0) = x4.drew := setCell_self (w := x4.drew) hrb rfl
  have z4 := cell_at (j := 4) hrb rfl
  have s4 : x4.setCell ⟨w.heap.size, 4, none⟩ (nu 0) = x4 := setCell_self hrb rfl
  have d4 : x4.drew.setCell ⟨w.heap.size, 4, none⟩ (nu 0) = x4.drew := setCell_self (w := x4.drew) hrb rfl
  have z5 := cell_at (j := 5) hrb rfl
  have s5 : x4.setCell ⟨w.heap.size, 5, none⟩ (nu 0) = x4 := setCell_self hrb rfl
  have d5 : x4.drew.setCell ⟨w.heap.size, 5, none⟩ (nu 0) = x4.drew := setCell_self (w := x4.drew) hrb rfl
  have z6 := cell_at (j := 6) hrb rfl
  have s6 : x4.setCell ⟨w.heap.size, 6, none⟩ (.string ⟨#[]⟩) = x4 := setCell_self hrb rfl
  have d6 : x4.drew.setCell ⟨w.heap.size, 6, none⟩ (.string ⟨#[]⟩) = x4.drew := setCell_self (w := x4.drew) hrb rfl
  have z7 := cell_at (j := 7) hrb rfl
  have s7 : x4.setCell ⟨w.heap.size, 7, none⟩ (.string ⟨#[]⟩) = x4 := setCell_self hrb rfl
  have d7 : x4.drew.setCell ⟨w.heap.size, 7, none⟩ (.string ⟨#[]⟩) = x4.drew := setCell_self (w := x4.drew) hrb rfl
  have z8 := cell_at (j := 8) hrb rfl
  have s8 : x4.setCell ⟨w.heap.size, 8, none⟩ (.int .u64 0) = x4 := setCell_self hrb rfl
  have d8 : x4.drew.setCell ⟨w.heap.size, 8, none⟩ (.int .u64 0) = x4.drew := setCell_self (w := x4.drew) hrb rfl
  have z9 := cell_at (j := 9) hrb rfl
  have s9 : x4.setCell ⟨w.heap.size, 9, none⟩ (nu 0) = x4 := setCell_self hrb rfl
  have d9 : x4.drew.setCell ⟨w.heap.size, 9, none⟩ (nu 0) = x4.drew := setCell_self (w := x4.drew) hrb rfl
  have z10 := cell_at (j := 10) hrb rfl
  have s10 : x4.setCell ⟨w.heap.size, 10, none⟩ (nu 0) = x4 := setCell_self hrb rfl
  have d10 : x4.drew.setCell ⟨w.heap.size, 10, none⟩ (nu 0) = x4.drew := setCell_self (w := x4.drew) hrb rfl
  have z11 := cell_at (j := 11) hrb rfl
  have s11 : x4.setCell ⟨w.heap.size, 11, none⟩ (nu 0) = x4 := setCell_self hrb rfl
  have d11 : x4.drew.setCell ⟨w.heap.size, 11, none⟩ (nu 0) = x4.drew := setCell_self (w := x4.drew) hrb rfl
  have z12 := cell_at (j := 12) hrb rfl
  have s12 : x4.setCell ⟨w.heap.size, 12, none⟩ (nu 0) = x4 := setCell_self hrb rfl
  have d12 : x4.drew.setCell ⟨w.heap.size, 12, none⟩ (nu 0) = x4.drew := setCell_self (w := x4.drew) hrb rfl
  have z13 := cell_at (j := 13) hrb rfl
  have s13 : x4.setCell ⟨w.heap.size, 13, none⟩ (nu 0) = x4 := setCell_self hrb rfl
  have d13 : x4.drew.setCell ⟨w.heap.size, 13, none⟩ (nu 0) = x4.drew := setCell_self (w := x4.drew) hrb rfl
  have z14 := cell_at (j := 14) hrb rfl
  have s14 : x4.setCell ⟨w.heap.size, 14, none⟩ (nu 0) = x4 := setCell_self hrb rfl
  have d14 : x4.drew.setCell ⟨w.heap.size, 14, none⟩ (nu 0) = x4.drew := setCell_self (w := x4.drew) hrb rfl
  have zf : ∀ i, _ := frz_of hrb
  clear hrb
  have HB := Hid.mk' HD4.out.bel
  have HH := Hid.mk' HD4.out.rblk
  clear HD4
  go_wp2_with fail
  go_region
  go_wp2
  refine bodyPost_ret (results_evt rfl _ _ w.heap.size Evt.zero rfl HH.out) rfl ?_
  exact ⟨rfl, HB.out.drew⟩

set_option maxRecDepth 100000 in
set_option maxHeartbeats 8000000 in
theorem dec_no_b (w : World) (v : Value) (b : List UInt8) (hR : RdB w v b) (hl : b.length ≤ 65537) (x : Value) (s : List UInt8 × Nat) (cH : ∀ wx q F p, Tg wx q F (b, 0) p → Calls Tryd.prog 37 #[ptr q] wx fun e w' => e = .returned (.iface 91 x) ∧ ∃ F', Tg w' q F' s p ∧ Keep (fun k => F k ∨ k = q) wx w' ∧ Goes wx F F') (hs : s = ([], 0)) (cM : ∀ wx, Calls Tryd.prog 94 #[x] wx fun e w' => e = .returned (.bool false) ∧ Below wx.heap.size wx w') :
    Calls Tryd.prog 14 #[v] w fun e w' => e = .returned (.tuple #[.agg Evt.zero.arr, noE 1]) ∧ Below w.heap.size w w' := by
  have hw1 : RdB (w.alloc (.cells #[nu 0, nu 0, nu 0, nu 0, nu 0, nu 0, .string ⟨#[]⟩, .string ⟨#[]⟩, .int .u64 0, nu 0, nu 0, nu 0, nu 0, nu 0, nu 0] 29)) v b := hR.below ((Below.refl _ _).alloc (Nat.le_refl _) _)
  have cO := Hid.mk' (Pk.Pp.open_any _ v b hw1 (by omega))
  have CH := Hid.mk' cH
  obtain ⟨a, cap, rfl, hrest0⟩ := hR
  clear hrest0 hw1 cH hl
  subst hs
  have fM := m_bm
  have CM := Hid.mk' cM
  clear cM
  go_enter Tryd.func14, Tryd.ntmps14
  go_wp2_with fail
  refine cO.out.mono ?_
  rintro e x1 ⟨p, F, rfl, hr, hF, hb⟩
  have HD0 := Hid.mk' (Dq.start hr hF hb)
  have cH1 := Hid.mk' (CH.out _ _ _ _ HD0.out.tg)
  clear hr hF hb cO CH
  go_wp2_with fail
  refine cH1.out.mono ?_
  rintro e x2 ⟨rfl, F2, ht, hk, hm⟩
  have HD2 := Hid.mk' (HD0.out.call ht hk hm)
  clear ht hk hm HD0 cH1
  have hq0 : x2.cell? ⟨x1.heap.size, 0, none⟩ = some (ptr p) := cell_at (j := 0) HD2.out.tg.blk rfl
  have hq1 : x2.cell? ⟨x1.heap.size, 1, none⟩ = some .nilIface := cell_at (j := 1) HD2.out.tg.blk rfl
  have cE : Hid (Calls Tryd.prog 38 #[ptr p] x2 fun e w' => e = .returned .nilIface ∧ Below x2.heap.size x2 w') := Pk.Pp.end_rw x2 p F2 [] HD2.out.tg.rd
  go_wp2_with fail
  refine cE.out.mono ?_
  rintro e x3 ⟨rfl, hb⟩
  have hD3 := HD2.out.below hb
  have HD4 := Hid.mk' (hD3.err 0 .nilIface rfl)
  have hq3 : x3.cell? ⟨x1.heap.size, 1, none⟩ = some .nilIface := cell_at (j := 1) hD3.tg.blk rfl
  have hf3 : x3.frozen? ⟨x1.heap.size, 1, none⟩ = false := by simp [World.frozen?, hD3.tg.blk]
  clear hb hD3 HD2 cE hq0 hq1
  go_upto_region 5 with fail
  generalize x3.setCell ⟨x1.heap.size, 1, none⟩ .nilIface = x4 at *
  clear hq3 hf3
  have hq1 : x4.cell? ⟨x1.heap.size, 1, none⟩ = some .nilIface := cell_at (j := 1) HD4.out.tg.blk rfl
  have C5 := Hid.mk' (CM.out x4)
  go_wp2_with fail
  refine C5.out.mono ?_
  rintro e x5 ⟨rfl, hb⟩
  have HD5 := Hid.mk' (HD4.out.below hb)
  clear hb HD4 C5 CM hq1
  have hrb := HD5.out.rblk
  have z0 := cell_at (j := 0) hrb rfl
  have s0 : x5.setCell ⟨w.heap.size, 0, none⟩ (nu 0) = x5 := setCell_self hrb rfl
  have z1 := cell_at (j := 1) hrb rfl
  have s1 : x5.setCell ⟨w.heap.size, 1, none⟩ (nu 0) = x5 := setCell_self hrb rfl
  have z2 := cell_at (j := 2) hrb rfl
  have s2 : x5.setCell ⟨w.heap.size, 2, none⟩ (nu 0) = x5 := setCell_self hrb rfl
  have z3 := cell_at (j := 3) hrb rfl
  have s3 : x5.setCell ⟨w.heap.size, 3, none⟩ (nu 0) = x5 := setCell_self hrb rfl
  have z4 := cell_at (j := 4) hrb rfl
  have s4 : x5.setCell ⟨w.heap.size, 4, none⟩ (nu 0) = x5 := setCell_self hrb rfl
  have z5 := cell_at (j := 5) hrb rfl
  have s5 : x5.setCell ⟨w.heap.size, 5, none⟩ (nu 0) = x5 := setCell_self hrb rfl
  have z6 := cell_at (j := 6) hrb rfl
  have s6 : x5.setCell ⟨w.heap.size, 6, none⟩ (.string ⟨#[]⟩) = x5 := setCell_self hrb rfl
  have z7 := cell_at (j := 7) hrb rfl
  have s7 : x5.setCell ⟨w.heap.size, 7, none⟩ (.string ⟨#[]⟩) = x5 := setCell_self hrb rfl
  have z8 := cell_at (j := 8) hrb rfl
  have s8 : x5.setCell ⟨w.heap.size, 8, none⟩ (.int .u64 0) = x5 := setCell_self hrb rfl
  have z9 := cell_at (j := 9) hrb rfl
  have s9 : x5.setCell ⟨w.heap.size, 9, none⟩ (nu 0) = x5 := setCell_self hrb rfl
  have z10 := cell_at (j := 10) hrb rfl
  have s10 : x5.setCell ⟨w.heap.size, 10, none⟩ (nu 0) = x5 := setCell_self hrb rfl
  have z11 := cell_at (j := 11) hrb rfl
  have s11 : x5.setCell ⟨w.heap.size, 11, none⟩ (nu 0) = x5 := setCell_self hrb rfl
  have z12 := cell_at (j := 12) hrb rfl
  have s12 : x5.setCell ⟨w.heap.size, 12, none⟩ (nu 0) = x5 := setCell_self hrb rfl
  have z13 := cell_at (j := 13) hrb rfl
  have s13 : x5.setCell ⟨w.heap.size, 13, none⟩ (nu 0) = x5 := setCell_self hrb rfl
  have z14 := cell_at (j := 14) hrb rfl
  have s14 : x5.setCell ⟨w.heap.size, 14, none⟩ (nu 0) = x5 := setCell_self hrb rfl
  have zf : ∀ i, _ := frz_of hrb
  clear hrb
  have HB := Hid.mk' HD5.out.bel
  have HH := Hid.mk' HD5.out.rblk
  clear HD5
  go_wp2
  refine bodyPost_ret (results_evt rfl _ _ w.heap.size Evt.zero rfl HH.out) rfl ?_
  exact ⟨rfl, HB.out⟩

set_option maxRecDepth 100000 in
set_option maxHeartbeats 8000000 in
theorem dec_yes_b (w : World) (v : Value) (b : List UInt8) (hR : RdB w v b) (hl : b.length ≤ 65537) (x : Value) (s : List UInt8 × Nat) (cH : ∀ wx q F p, Tg wx q F (b, 0) p → Calls Tryd.prog 37 #[ptr q] wx fun e w' => e = .returned (.iface 91 x) ∧ ∃ F', Tg w' q F' s p ∧ Keep (fun k => F k ∨ k = q) wx w' ∧ Goes wx F F') (hs : s = ([], 0)) (cM : ∀ wx, Calls Tryd.prog 94 #[x] wx fun e w' => e = .returned (.bool true) ∧ Below wx.heap.size wx w') (ev : Evt) (cT : ∀ wx, Calls Tryd.prog 25 #[.iface 91 x] wx fun y w' => y = .returned (.agg ev.arr) ∧ Below wx.heap.size wx w') :
    Calls Tryd.prog 14 #[v] w fun e w' => e = .returned (.tuple #[.agg ev.arr, .nilIface]) ∧ Below w.heap.size w w' := by
  have hw1 : RdB (w.alloc (.cells #[nu 0, nu 0, nu 0, nu 0, nu 0, nu 0, .string ⟨#[]⟩, .string ⟨#[]⟩, .int .u64 0, nu 0, nu 0, nu 0, nu 0, nu 0, nu 0] 29)) v b := hR.below ((Below.refl _ _).alloc (Nat.le_refl _) _)
  have cO := Hid.mk' (Pk.Pp.open_any _ v b hw1 (by omega))
  have CH := Hid.mk' cH
  obtain ⟨a, cap, rfl, hrest0⟩ := hR
  clear hrest0 hw1 cH hl
  subst hs
  have fM := m_bm
  have CM := Hid.mk' cM
  clear cM
  obtain ⟨ek, ⟨slot, birth, us, ub, kind, user, label, scopes, level, born, deadline, depth⟩, eb, et⟩ := ev
  have HA : Hid ((Evt.mk ek ⟨slot, birth, us, ub, kind, user, label, scopes, level, born, deadline, depth⟩ eb et).arr = #[nu ek, nu slot, nu birth, nu us, nu ub, nu kind, .string (tx user), .string (tx label), .int .u64 scopes, nu level, nu born, nu deadline, nu depth, nu eb, nu et]) := rfl
  rw [HA.out] at cT ⊢
  obtain ⟨fl, hfl⟩ : ∃ f, tx label = f := ⟨_, rfl⟩
  obtain ⟨fu, hfu⟩ : ∃ f, tx user = f := ⟨_, rfl⟩
  have HFL := Hid.mk' hfl
  have HFU := Hid.mk' hfu
  rw [hfl, hfu] at cT ⊢
  have CT := Hid.mk' cT
  clear cT hfl hfu
  go_enter Tryd.func14, Tryd.ntmps14
  go_wp2_with fail
  refine cO.out.mono ?_
  rintro e x1 ⟨p, F, rfl, hr, hF, hb⟩
  have HD0 := Hid.mk' (Dq.start hr hF hb)
  have cH1 := Hid.mk' (CH.out _ _ _ _ HD0.out.tg)
  clear hr hF hb cO CH
  go_wp2_with fail
  refine cH1.out.mono ?_
  rintro e x2 ⟨rfl, F2, ht, hk, hm⟩
  have HD2 := Hid.mk' (HD0.out.call ht hk hm)
  clear ht hk hm HD0 cH1
  have hq0 : x2.cell? ⟨x1.heap.size, 0, none⟩ = some (ptr p) := cell_at (j := 0) HD2.out.tg.blk rfl
  have hq1 : x2.cell? ⟨x1.heap.size, 1, none⟩ = some .nilIface := cell_at (j := 1) HD2.out.tg.blk rfl
  have cE : Hid (Calls Tryd.prog 38 #[ptr p] x2 fun e w' => e = .returned .nilIface ∧ Below x2.heap.size x2 w') := Pk.Pp.end_rw x2 p F2 [] HD2.out.tg.rd
  go_wp2_with fail
  refine cE.out.mono ?_
  rintro e x3 ⟨rfl, hb⟩
  have hD3 := HD2.out.below hb
  have HD4 := Hid.mk' (hD3.err 0 .nilIface rfl)
  have hq3 : x3.cell? ⟨x1.heap.size, 1, none⟩ = some .nilIface := cell_at (j := 1) hD3.tg.blk rfl
  have hf3 : x3.frozen? ⟨x1.heap.size, 1, none⟩ = false := by simp [World.frozen?, hD3.tg.blk]
  clear hb hD3 HD2 cE hq0 hq1
  go_upto_region 5 with fail
  generalize x3.setCell ⟨x1.heap.size, 1, none⟩ .nilIface = x4 at *
  clear hq3 hf3
  have hq1 : x4.cell? ⟨x1.heap.size, 1, none⟩ = some .nilIface := cell_at (j := 1) HD4.out.tg.blk rfl
  have C5 := Hid.mk' (CM.out x4)
  go_wp2_with fail
  refine C5.out.mono ?_
  rintro e x5 ⟨rfl, hb⟩
  have HD5 := Hid.mk' (HD4.out.below hb)
  clear hb HD4 C5 CM hq1
  have C6 := Hid.mk' (CT.out x5)
  go_wp2_with fail
  refine C6.out.mono ?_
  rintro e x6 ⟨rfl, hb⟩
  have HD6 := Hid.mk' (HD5.out.below hb)
  clear hb HD5 C6 CT
  have hrb := HD6.out.rblk
  have z0 := cell_at (j := 0) hrb rfl
  have z1 := cell_at (j := 1) hrb rfl
  have z2 := cell_at (j := 2) hrb rfl
  have z3 := cell_at (j := 3) hrb rfl
  have z4 := cell_at (j := 4) hrb rfl
  have z5 := cell_at (j := 5) hrb rfl
  have z6 := cell_at (j := 6) hrb rfl
  have z7 := cell_at (j := 7) hrb rfl
  have z8 := cell_at (j := 8) hrb rfl
  have z9 := cell_at (j := 9) hrb rfl
  have z10 := cell_at (j := 10) hrb rfl
  have z11 := cell_at (j := 11) hrb rfl
  have z12 := cell_at (j := 12) hrb rfl
  have z13 := cell_at (j := 13) hrb rfl
  have z14 := cell_at (j := 14) hrb rfl
  have zf : ∀ i, _ := frz_of hrb
  clear hrb
  have HB := Hid.mk' HD6.out.bel
  have HH := Hid.mk' HD6.out.rblk
  clear HD6
  go_wp2
  have hfl := HFL.out
  have hfu := HFU.out
  subst hfl hfu
  refine bodyPost_ret (results_evt rfl _ _ w.heap.size ⟨ek, ⟨slot, birth, us, ub, kind, user, label, scopes, level, born, deadline, depth⟩, eb, et⟩ rfl (putE_heap (z := Evt.zero) ⟨ek, ⟨slot, birth, us, ub, kind, user, label, scopes, level, born, deadline, depth⟩, eb, et⟩ HH.out)) rfl ?_
  exact ⟨rfl, putE_below ⟨ek, ⟨slot, birth, us, ub, kind, user, label, scopes, level, born, deadline, depth⟩, eb, et⟩ HB.out (Nat.le_refl _)⟩

set_option maxRecDepth 100000 in
set_option maxHeartbeats 8000000 in
theorem dec_no_r (w : World) (v : Value) (b : List UInt8) (hR : RdB w v b) (hl : b.length ≤ 65537) (x : Value) (s : List UInt8 × Nat) (cH : ∀ wx q F p, Tg wx q F (b, 0) p → Calls Tryd.prog 37 #[ptr q] wx fun e w' => e = .returned (.iface 93 x) ∧ ∃ F', Tg w' q F' s p ∧ Keep (fun k => F k ∨ k = q) wx w' ∧ Goes wx F F') (hs : s = ([], 0)) (cM : ∀ wx, Calls Tryd.prog 104 #[x] wx fun e w' => e = .returned (.bool false) ∧ Below wx.heap.size wx w') :
    Calls Tryd.prog 14 #[v] w fun e w' => e = .returned (.tuple #[.agg Evt.zero.arr, noE 1]) ∧ Below w.heap.size w w' := by
  have hw1 : RdB (w.alloc (.cells #[nu 0, nu 0, nu 0, nu 0, nu 0, nu 0, .string ⟨#[]⟩, .string ⟨#[]⟩, .int .u64 0, nu 0, nu 0, nu 0, nu 0, nu 0, nu 0] 29)) v b := hR.below ((Below.refl _ _).alloc (Nat.le_refl _) _)
  have cO := Hid.mk' (Pk.Pp.open_any _ v b hw1 (by omega))
  have CH := Hid.mk' cH
  obtain ⟨a, cap, rfl, hrest0⟩ := hR
  clear hrest0 hw1 cH hl
  subst hs
  have fM := m_rm
  have CM := Hid.mk' cM
  clear cM
  go_enter Tryd.func14, Tryd.ntmps14
  go_wp2_with fail
  refine cO.out.mono ?_
  rintro e x1 ⟨p, F, rfl, hr, hF, hb⟩
  have HD0 := Hid.mk' (Dq.start hr hF hb)
  have cH1 := Hid.mk' (CH.out _ _ _ _ HD0.out.tg)
  clear hr hF hb cO CH
  go_wp2_with fail
  refine cH1.out.mono ?_
  rintro e x2 ⟨rfl, F2, ht, hk, hm⟩
  have HD2 := Hid.mk' (HD0.out.call ht hk hm)
  clear ht hk hm HD0 cH1
  have hq0 : x2.cell? ⟨x1.heap.size, 0, none⟩ = some (ptr p) := cell_at (j := 0) HD2.out.tg.blk rfl
  have hq1 : x2.cell? ⟨x1.heap.size, 1, none⟩ = some .nilIface := cell_at (j := 1) HD2.out.tg.blk rfl
  have cE : Hid (Calls Tryd.prog 38 #[ptr p] x2 fun e w' => e = .returned .nilIface ∧ Below x2.heap.size x2 w') := Pk.Pp.end_rw x2 p F2 [] HD2.out.tg.rd
  go_wp2_with fail
  refine cE.out.mono ?_
  rintro e x3 ⟨rfl, hb⟩
  have hD3 := HD2.out.below hb
  have HD4 := Hid.mk' (hD3.err 0 .nilIface rfl)
  have hq3 : x3.cell? ⟨x1.heap.size, 1, none⟩ = some .nilIface := cell_at (j := 1) hD3.tg.blk rfl
  have hf3 : x3.frozen? ⟨x1.heap.size, 1, none⟩ = false := by simp [World.frozen?, hD3.tg.blk]
  clear hb hD3 HD2 cE hq0 hq1
  go_upto_region 5 with fail
  generalize x3.setCell ⟨x1.heap.size, 1, none⟩ .nilIface = x4 at *
  clear hq3 hf3
  have hq1 : x4.cell? ⟨x1.heap.size, 1, none⟩ = some .nilIface := cell_at (j := 1) HD4.out.tg.blk rfl
  have C5 := Hid.mk' (CM.out x4)
  go_wp2_with fail
  refine C5.out.mono ?_
  rintro e x5 ⟨rfl, hb⟩
  have HD5 := Hid.mk' (HD4.out.below hb)
  clear hb HD4 C5 CM hq1
  have hrb := HD5.out.rblk
  have z0 := cell_at (j := 0) hrb rfl
  have s0 : x5.setCell ⟨w.heap.size, 0, none⟩ (nu 0) = x5 := setCell_self hrb rfl
  have z1 := cell_at (j := 1) hrb rfl
  have s1 : x5.setCell ⟨w.heap.size, 1, none⟩ (nu 0) = x5 := setCell_self hrb rfl
  have z2 := cell_at (j := 2) hrb rfl
  have s2 : x5.setCell ⟨w.heap.size, 2, none⟩ (nu 0) = x5 := setCell_self hrb rfl
  have z3 := cell_at (j := 3) hrb rfl
  have s3 : x5.setCell ⟨w.heap.size, 3, none⟩ (nu 0) = x5 := setCell_self hrb rfl
  have z4 := cell_at (j := 4) hrb rfl
  have s4 : x5.setCell ⟨w.heap.size, 4, none⟩ (nu 0) = x5 := setCell_self hrb rfl
  have z5 := cell_at (j := 5) hrb rfl
  have s5 : x5.setCell ⟨w.heap.size, 5, none⟩ (nu 0) = x5 := setCell_self hrb rfl
  have z6 := cell_at (j := 6) hrb rfl
  have s6 : x5.setCell ⟨w.heap.size, 6, none⟩ (.string ⟨#[]⟩) = x5 := setCell_self hrb rfl
  have z7 := cell_at (j := 7) hrb rfl
  have s7 : x5.setCell ⟨w.heap.size, 7, none⟩ (.string ⟨#[]⟩) = x5 := setCell_self hrb rfl
  have z8 := cell_at (j := 8) hrb rfl
  have s8 : x5.setCell ⟨w.heap.size, 8, none⟩ (.int .u64 0) = x5 := setCell_self hrb rfl
  have z9 := cell_at (j := 9) hrb rfl
  have s9 : x5.setCell ⟨w.heap.size, 9, none⟩ (nu 0) = x5 := setCell_self hrb rfl
  have z10 := cell_at (j := 10) hrb rfl
  have s10 : x5.setCell ⟨w.heap.size, 10, none⟩ (nu 0) = x5 := setCell_self hrb rfl
  have z11 := cell_at (j := 11) hrb rfl
  have s11 : x5.setCell ⟨w.heap.size, 11, none⟩ (nu 0) = x5 := setCell_self hrb rfl
  have z12 := cell_at (j := 12) hrb rfl
  have s12 : x5.setCell ⟨w.heap.size, 12, none⟩ (nu 0) = x5 := setCell_self hrb rfl
  have z13 := cell_at (j := 13) hrb rfl
  have s13 : x5.setCell ⟨w.heap.size, 13, none⟩ (nu 0) = x5 := setCell_self hrb rfl
  have z14 := cell_at (j := 14) hrb rfl
  have s14 : x5.setCell ⟨w.heap.size, 14, none⟩ (nu 0) = x5 := setCell_self hrb rfl
  have zf : ∀ i, _ := frz_of hrb
  clear hrb
  have HB := Hid.mk' HD5.out.bel
  have HH := Hid.mk' HD5.out.rblk
  clear HD5
  go_wp2
  refine bodyPost_ret (results_evt rfl _ _ w.heap.size Evt.zero rfl HH.out) rfl ?_
  exact ⟨rfl, HB.out⟩

set_option maxRecDepth 100000 in
set_option maxHeartbeats 8000000 in
theorem dec_yes_r (w : World) (v : Value) (b : List UInt8) (hR : RdB w v b) (hl : b.length ≤ 65537) (x : Value) (s : List UInt8 × Nat) (cH : ∀ wx q F p, Tg wx q F (b, 0) p → Calls Tryd.prog 37 #[ptr q] wx fun e w' => e = .returned (.iface 93 x) ∧ ∃ F', Tg w' q F' s p ∧ Keep (fun k => F k ∨ k = q) wx w' ∧ Goes wx F F') (hs : s = ([], 0)) (cM : ∀ wx, Calls Tryd.prog 104 #[x] wx fun e w' => e = .returned (.bool true) ∧ Below wx.heap.size wx w') (ev : Evt) (cT : ∀ wx, Calls Tryd.prog 25 #[.iface 93 x] wx fun y w' => y = .returned (.agg ev.arr) ∧ Below wx.heap.size wx w') :
    Calls Tryd.prog 14 #[v] w fun e w' => e = .returned (.tuple #[.agg ev.arr, .nilIface]) ∧ Below w.heap.size w w' := by
  have hw1 : RdB (w.alloc (.cells #[nu 0, nu 0, nu 0, nu 0, nu 0, nu 0, .string ⟨#[]⟩, .string ⟨#[]⟩, .int .u64 0, nu 0, nu 0, nu 0, nu 0, nu 0, nu 0] 29)) v b := hR.below ((Below.refl _ _).alloc (Nat.le_refl _) _)
  have cO := Hid.mk' (Pk.Pp.open_any _ v b hw1 (by omega))
  have CH := Hid.mk' cH
  obtain ⟨a, cap, rfl, hrest0⟩ := hR
  clear hrest0 hw1 cH hl
  subst hs
  have fM := m_rm
  have CM := Hid.mk' cM
  clear cM
  obtain ⟨ek, ⟨slot, birth, us, ub, kind, user, label, scopes, level, born, deadline, depth⟩, eb, et⟩ := ev
  have HA : Hid ((Evt.mk ek ⟨slot, birth, us, ub, kind, user, label, scopes, level, born, deadline, depth⟩ eb et).arr = #[nu ek, nu slot, nu birth, nu us, nu ub, nu kind, .string (tx user), .string (tx label), .int .u64 scopes, nu level, nu born, nu deadline, nu depth, nu eb, nu et]) := rfl
  rw [HA.out] at cT ⊢
  obtain ⟨fl, hfl⟩ : ∃ f, tx label = f := ⟨_, rfl⟩
  obtain ⟨fu, hfu⟩ : ∃ f, tx user = f := ⟨_, rfl⟩
  have HFL := Hid.mk' hfl
  have HFU := Hid.mk' hfu
  rw [hfl, hfu] at cT ⊢
  have CT := Hid.mk' cT
  clear cT hfl hfu
  go_enter Tryd.func14, Tryd.ntmps14
  go_wp2_with fail
  refine cO.out.mono ?_
  rintro e x1 ⟨p, F, rfl, hr, hF, hb⟩
  have HD0 := Hid.mk' (Dq.start hr hF hb)
  have cH1 := Hid.mk' (CH.out _ _ _ _ HD0.out.tg)
  clear hr hF hb cO CH
  go_wp2_with fail
  refine cH1.out.mono ?_
  rintro e x2 ⟨rfl, F2, ht, hk, hm⟩
  have HD2 := Hid.mk' (HD0.out.call ht hk hm)
  clear ht hk hm HD0 cH1
  have hq0 : x2.cell? ⟨x1.heap.size, 0, none⟩ = some (ptr p) := cell_at (j := 0) HD2.out.tg.blk rfl
  have hq1 : x2.cell? ⟨x1.heap.size, 1, none⟩ = some .nilIface := cell_at (j := 1) HD2.out.tg.blk rfl
  have cE : Hid (Calls Tryd.prog 38 #[ptr p] x2 fun e w' => e = .returned .nilIface ∧ Below x2.heap.size x2 w') := Pk.Pp.end_rw x2 p F2 [] HD2.out.tg.rd
  go_wp2_with fail
  refine cE.out.mono ?_
  rintro e x3 ⟨rfl, hb⟩
  have hD3 := HD2.out.below hb
  have HD4 := Hid.mk' (hD3.err 0 .nilIface rfl)
  have hq3 : x3.cell? ⟨x1.heap.size, 1, none⟩ = some .nilIface := cell_at (j := 1) hD3.tg.blk rfl
  have hf3 : x3.frozen? ⟨x1.heap.size, 1, none⟩ = false := by simp [World.frozen?, hD3.tg.blk]
  clear hb hD3 HD2 cE hq0 hq1
  go_upto_region 5 with fail
  generalize x3.setCell ⟨x1.heap.size, 1, none⟩ .nilIface = x4 at *
  clear hq3 hf3
  have hq1 : x4.cell? ⟨x1.heap.size, 1, none⟩ = some .nilIface := cell_at (j := 1) HD4.out.tg.blk rfl
  have C5 := Hid.mk' (CM.out x4)
  go_wp2_with fail
  refine C5.out.mono ?_
  rintro e x5 ⟨rfl, hb⟩
  have HD5 := Hid.mk' (HD4.out.below hb)
  clear hb HD4 C5 CM hq1
  have C6 := Hid.mk' (CT.out x5)
  go_wp2_with fail
  refine C6.out.mono ?_
  rintro e x6 ⟨rfl, hb⟩
  have HD6 := Hid.mk' (HD5.out.below hb)
  clear hb HD5 C6 CT
  have hrb := HD6.out.rblk
  have z0 := cell_at (j := 0) hrb rfl
  have z1 := cell_at (j := 1) hrb rfl
  have z2 := cell_at (j := 2) hrb rfl
  have z3 := cell_at (j := 3) hrb rfl
  have z4 := cell_at (j := 4) hrb rfl
  have z5 := cell_at (j := 5) hrb rfl
  have z6 := cell_at (j := 6) hrb rfl
  have z7 := cell_at (j := 7) hrb rfl
  have z8 := cell_at (j := 8) hrb rfl
  have z9 := cell_at (j := 9) hrb rfl
  have z10 := cell_at (j := 10) hrb rfl
  have z11 := cell_at (j := 11) hrb rfl
  have z12 := cell_at (j := 12) hrb rfl
  have z13 := cell_at (j := 13) hrb rfl
  have z14 := cell_at (j := 14) hrb rfl
  have zf : ∀ i, _ := frz_of hrb
  clear hrb
  have HB := Hid.mk' HD6.out.bel
  have HH := Hid.mk' HD6.out.rblk
  clear HD6
  go_wp2
  have hfl := HFL.out
  have hfu := HFU.out
  subst hfl hfu
  refine bodyPost_ret (results_evt rfl _ _ w.heap.size ⟨ek, ⟨slot, birth, us, ub, kind, user, label, scopes, level, born, deadline, depth⟩, eb, et⟩ rfl (putE_heap (z := Evt.zero) ⟨ek, ⟨slot, birth, us, ub, kind, user, label, scopes, level, born, deadline, depth⟩, eb, et⟩ HH.out)) rfl ?_
  exact ⟨rfl, putE_below ⟨ek, ⟨slot, birth, us, ub, kind, user, label, scopes, level, born, deadline, depth⟩, eb, et⟩ HB.out (Nat.le_refl _)⟩

set_option maxRecDepth 100000 in
set_option maxHeartbeats 8000000 in
theorem dec_no_t (w : World) (v : Value) (b : List UInt8) (hR : RdB w v b) (hl : b.length ≤ 65537) (x : Value) (s : List UInt8 × Nat) (cH : ∀ wx q F p, Tg wx q F (b, 0) p → Calls Tryd.prog 37 #[ptr q] wx fun e w' => e = .returned (.iface 95 x) ∧ ∃ F', Tg w' q F' s p ∧ Keep (fun k => F k ∨ k = q) wx w' ∧ Goes wx F F') (hs : s = ([], 0)) (cM : ∀ wx, Calls Tryd.prog 106 #[x] wx fun e w' => e = .returned (.bool false) ∧ Below wx.heap.size wx w') :
    Calls Tryd.prog 14 #[v] w fun e w' => e = .returned (.tuple #[.agg Evt.zero.arr, noE 1]) ∧ Below w.heap.size w w' := by
  have hw1 : RdB (w.alloc (.cells #[nu 0, nu 0, nu 0, nu 0, nu 0, nu 0, .string ⟨#[]⟩, .string ⟨#[]⟩, .int .u64 0, nu 0, nu 0, nu 0, nu 0, nu 0, nu 0] 29)) v b := hR.below ((Below.refl _ _).alloc (Nat.le_refl _) _)
  have cO := Hid.mk' (Pk.Pp.open_any _ v b hw1 (by omega))
  have CH := Hid.mk' cH
  obtain ⟨a, cap, rfl, hrest0⟩ := hR
  clear hrest0 hw1 cH hl
  subst hs
  have fM := m_tm
  have CM := Hid.mk' cM
  clear cM
  go_enter Tryd.func14, Tryd.ntmps14
  go_wp2_with fail
  refine cO.out.mono ?_
  rintro e x1 ⟨p, F, rfl, hr, hF, hb⟩
  have HD0 := Hid.mk' (Dq.start hr hF hb)
  have cH1 := Hid.mk' (CH.out _ _ _ _ HD0.out.tg)
  clear hr hF hb cO CH
  go_wp2_with fail
  refine cH1.out.mono ?_
  rintro e x2 ⟨rfl, F2, ht, hk, hm⟩
  have HD2 := Hid.mk' (HD0.out.call ht hk hm)
  clear ht hk hm HD0 cH1
  have hq0 : x2.cell? ⟨x1.heap.size, 0, none⟩ = some (ptr p) := cell_at (j := 0) HD2.out.tg.blk rfl
  have hq1 : x2.cell? ⟨x1.heap.size, 1, none⟩ = some .nilIface := cell_at (j := 1) HD2.out.tg.blk rfl
  have cE : Hid (Calls Tryd.prog 38 #[ptr p] x2 fun e w' => e = .returned .nilIface ∧ Below x2.heap.size x2 w') := Pk.Pp.end_rw x2 p F2 [] HD2.out.tg.rd
  go_wp2_with fail
  refine cE.out.mono ?_
  rintro e x3 ⟨rfl, hb⟩
  have hD3 := HD2.out.below hb
  have HD4 := Hid.mk' (hD3.err 0 .nilIface rfl)
  have hq3 : x3.cell? ⟨x1.heap.size, 1, none⟩ = some .nilIface := cell_at (j := 1) hD3.tg.blk rfl
  have hf3 : x3.frozen? ⟨x1.heap.size, 1, none⟩ = false := by simp [World.frozen?, hD3.tg.blk]
  clear hb hD3 HD2 cE hq0 hq1
  go_upto_region 5 with fail
  generalize x3.setCell ⟨x1.heap.size, 1, none⟩ .nilIface = x4 at *
  clear hq3 hf3
  have hq1 : x4.cell? ⟨x1.heap.size, 1, none⟩ = some .nilIface := cell_at (j := 1) HD4.out.tg.blk rfl
  have C5 := Hid.mk' (CM.out x4)
  go_wp2_with fail
  refine C5.out.mono ?_
  rintro e x5 ⟨rfl, hb⟩
  have HD5 := Hid.mk' (HD4.out.below hb)
  clear hb HD4 C5 CM hq1
  have hrb := HD5.out.rblk
  have z0 := cell_at (j := 0) hrb rfl
  have s0 : x5.setCell ⟨w.heap.size, 0, none⟩ (nu 0) = x5 := setCell_self hrb rfl
  have z1 := cell_at (j := 1) hrb rfl
  have s1 : x5.setCell ⟨w.heap.size, 1, none⟩ (nu 0) = x5 := setCell_self hrb rfl
  have z2 := cell_at (j := 2) hrb rfl
  have s2 : x5.setCell ⟨w.heap.size, 2, none⟩ (nu 0) = x5 := setCell_self hrb rfl
  have z3 := cell_at (j := 3) hrb rfl
  have s3 : x5.setCell ⟨w.heap.size, 3, none⟩ (nu 0) = x5 := setCell_self hrb rfl
  have z4 := cell_at (j := 4) hrb rfl
  have s4 : x5.setCell ⟨w.heap.size, 4, none⟩ (nu 0) = x5 := setCell_self hrb rfl
  have z5 := cell_at (j := 5) hrb rfl
  have s5 : x5.setCell ⟨w.heap.size, 5, none⟩ (nu 0) = x5 := setCell_self hrb rfl
  have z6 := cell_at (j := 6) hrb rfl
  have s6 : x5.setCell ⟨w.heap.size, 6, none⟩ (.string ⟨#[]⟩) = x5 := setCell_self hrb rfl
  have z7 := cell_at (j := 7) hrb rfl
  have s7 : x5.setCell ⟨w.heap.size, 7, none⟩ (.string ⟨#[]⟩) = x5 := setCell_self hrb rfl
  have z8 := cell_at (j := 8) hrb rfl
  have s8 : x5.setCell ⟨w.heap.size, 8, none⟩ (.int .u64 0) = x5 := setCell_self hrb rfl
  have z9 := cell_at (j := 9) hrb rfl
  have s9 : x5.setCell ⟨w.heap.size, 9, none⟩ (nu 0) = x5 := setCell_self hrb rfl
  have z10 := cell_at (j := 10) hrb rfl
  have s10 : x5.setCell ⟨w.heap.size, 10, none⟩ (nu 0) = x5 := setCell_self hrb rfl
  have z11 := cell_at (j := 11) hrb rfl
  have s11 : x5.setCell ⟨w.heap.size, 11, none⟩ (nu 0) = x5 := setCell_self hrb rfl
  have z12 := cell_at (j := 12) hrb rfl
  have s12 : x5.setCell ⟨w.heap.size, 12, none⟩ (nu 0) = x5 := setCell_self hrb rfl
  have z13 := cell_at (j := 13) hrb rfl
  have s13 : x5.setCell ⟨w.heap.size, 13, none⟩ (nu 0) = x5 := setCell_self hrb rfl
  have z14 := cell_at (j := 14) hrb rfl
  have s14 : x5.setCell ⟨w.heap.size, 14, none⟩ (nu 0) = x5 := setCell_self hrb rfl
  have zf : ∀ i, _ := frz_of hrb
  clear hrb
  have HB := Hid.mk' HD5.out.bel
  have HH := Hid.mk' HD5.out.rblk
  clear HD5
  go_wp2
  refine bodyPost_ret (results_evt rfl _ _ w.heap.size Evt.zero rfl HH.out) rfl ?_
  exact ⟨rfl, HB.out⟩

set_option maxRecDepth 100000 in
set_option maxHeartbeats 8000000 in
theorem dec_yes_t (w : World) (v : Value) (b : List UInt8) (hR : RdB w v b) (hl : b.length ≤ 65537) (x : Value) (s : List UInt8 × Nat) (cH : ∀ wx q F p, Tg wx q F (b, 0) p → Calls Tryd.prog 37 #[ptr q] wx fun e w' => e = .returned (.iface 95 x) ∧ ∃ F', Tg w' q F' s p ∧ Keep (fun k => F k ∨ k = q) wx w' ∧ Goes wx F F') (hs : s = ([], 0)) (cM : ∀ wx, Calls Tryd.prog 106 #[x] wx fun e w' => e = .returned (.bool true) ∧ Below wx.heap.size wx w') (ev : Evt) (cT : ∀ wx, Calls Tryd.prog 25 #[.iface 95 x] wx fun y w' => y = .returned (.agg ev.arr) ∧ Below wx.heap.size wx w') :
    Calls Tryd.prog 14 #[v] w fun e w' => e = .returned (.tuple #[.agg ev.arr, .nilIface]) ∧ Below w.heap.size w w' := by
  have hw1 : RdB (w.alloc (.cells #[nu 0, nu 0, nu 0, nu 0, nu 0, nu 0, .string ⟨#[]⟩, .string ⟨#[]⟩, .int .u64 0, nu 0, nu 0, nu 0, nu 0, nu 0, nu 0] 29)) v b := hR.below ((Below.refl _ _).alloc (Nat.le_refl _) _)
  have cO := Hid.mk' (Pk.Pp.open_any _ v b hw1 (by omega))
  have CH := Hid.mk' cH
  obtain ⟨a, cap, rfl, hrest0⟩ := hR
  clear hrest0 hw1 cH hl
  subst hs
  have fM := m_tm
  have CM := Hid.mk' cM
  clear cM
  obtain ⟨ek, ⟨slot, birth, us, ub, kind, user, label, scopes, level, born, deadline, depth⟩, eb, et⟩ := ev
  have HA : Hid ((Evt.mk ek ⟨slot, birth, us, ub, kind, user, label, scopes, level, born, deadline, depth⟩ eb et).arr = #[nu ek, nu slot, nu birth, nu us, nu ub, nu kind, .string (tx user), .string (tx label), .int .u64 scopes, nu level, nu born, nu deadline, nu depth, nu eb, nu et]) := rfl
  rw [HA.out] at cT ⊢
  obtain ⟨fl, hfl⟩ : ∃ f, tx label = f := ⟨_, rfl⟩
  obtain ⟨fu, hfu⟩ : ∃ f, tx user = f := ⟨_, rfl⟩
  have HFL := Hid.mk' hfl
  have HFU := Hid.mk' hfu
  rw [hfl, hfu] at cT ⊢
  have CT := Hid.mk' cT
  clear cT hfl hfu
  go_enter Tryd.func14, Tryd.ntmps14
  go_wp2_with fail
  refine cO.out.mono ?_
  rintro e x1 ⟨p, F, rfl, hr, hF, hb⟩
  have HD0 := Hid.mk' (Dq.start hr hF hb)
  have cH1 := Hid.mk' (CH.out _ _ _ _ HD0.out.tg)
  clear hr hF hb cO CH
  go_wp2_with fail
  refine cH1.out.mono ?_
  rintro e x2 ⟨rfl, F2, ht, hk, hm⟩
  have HD2 := Hid.mk' (HD0.out.call ht hk hm)
  clear ht hk hm HD0 cH1
  have hq0 : x2.cell? ⟨x1.heap.size, 0, none⟩ = some (ptr p) := cell_at (j := 0) HD2.out.tg.blk rfl
  have hq1 : x2.cell? ⟨x1.heap.size, 1, none⟩ = some .nilIface := cell_at (j := 1) HD2.out.tg.blk rfl
  have cE : Hid (Calls Tryd.prog 38 #[ptr p] x2 fun e w' => e = .returned .nilIface ∧ Below x2.heap.size x2 w') := Pk.Pp.end_rw x2 p F2 [] HD2.out.tg.rd
  go_wp2_with fail
  refine cE.out.mono ?_
  rintro e x3 ⟨rfl, hb⟩
  have hD3 := HD2.out.below hb
  have HD4 := Hid.mk' (hD3.err 0 .nilIface rfl)
  have hq3 : x3.cell? ⟨x1.heap.size, 1, none⟩ = some .nilIface := cell_at (j := 1) hD3.tg.blk rfl
  have hf3 : x3.frozen? ⟨x1.heap.size, 1, none⟩ = false := by simp [World.frozen?, hD3.tg.blk]
  clear hb hD3 HD2 cE hq0 hq1
  go_upto_region 5 with fail
  generalize x3.setCell ⟨x1.heap.size, 1, none⟩ .nilIface = x4 at *
  clear hq3 hf3
  have hq1 : x4.cell? ⟨x1.heap.size, 1, none⟩ = some .nilIface := cell_at (j := 1) HD4.out.tg.blk rfl
  have C5 := Hid.mk' (CM.out x4)
  go_wp2_with fail
  refine C5.out.mono ?_
  rintro e x5 ⟨rfl, hb⟩
  have HD5 := Hid.mk' (HD4.out.below hb)
  clear hb HD4 C5 CM hq1
  have C6 := Hid.mk' (CT.out x5)
  go_wp2_with fail
  refine C6.out.mono ?_
  rintro e x6 ⟨rfl, hb⟩
  have HD6 := Hid.mk' (HD5.out.below hb)
  clear hb HD5 C6 CT
  have hrb := HD6.out.rblk
  have z0 := cell_at (j := 0) hrb rfl
  have z1 := cell_at (j := 1) hrb rfl
  have z2 := cell_at (j := 2) hrb rfl
  have z3 := cell_at (j := 3) hrb rfl
  have z4 := cell_at (j := 4) hrb rfl
  have z5 := cell_at (j := 5) hrb rfl
  have z6 := cell_at (j := 6) hrb rfl
  have z7 := cell_at (j := 7) hrb rfl
  have z8 := cell_at (j := 8) hrb rfl
  have z9 := cell_at (j := 9) hrb rfl
  have z10 := cell_at (j := 10) hrb rfl
  have z11 := cell_at (j := 11) hrb rfl
  have z12 := cell_at (j := 12) hrb rfl
  have z13 := cell_at (j := 13) hrb rfl
  have z14 := cell_at (j := 14) hrb rfl
  have zf : ∀ i, _ := frz_of hrb
  clear hrb
  have HB := Hid.mk' HD6.out.bel
  have HH := Hid.mk' HD6.out.rblk
  clear HD6
  go_wp2
  have hfl := HFL.out
  have hfu := HFU.out
  subst hfl hfu
  refine bodyPost_ret (results_evt rfl _ _ w.heap.size ⟨ek, ⟨slot, birth, us, ub, kind, user, label, scopes, level, born, deadline, depth⟩, eb, et⟩ rfl (putE_heap (z := Evt.zero) ⟨ek, ⟨slot, birth, us, ub, kind, user, label, scopes, level, born, deadline, depth⟩, eb, et⟩ HH.out)) rfl ?_
  exact ⟨rfl, putE_below ⟨ek, ⟨slot, birth, us, ub, kind, user, label, scopes, level, born, deadline, depth⟩, eb, et⟩ HB.out (Nat.le_refl _)⟩

end Pe
end Ev
end Go.Proofs.YtnllplholfhbdaaDoor
