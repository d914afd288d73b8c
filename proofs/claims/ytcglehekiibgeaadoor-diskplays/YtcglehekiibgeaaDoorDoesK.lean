/- One act, on both disks; both disks read alike. -/
import Derived.Test.YtcglehekiibgeaaDoorStepK
import Derived.Test.YtcglehekiibgeaaDoorPlace
namespace Go.Proofs.YtcglehekiibgeaaDoor
set_option linter.ambiguousOpen false
open Go.RowKit
namespace Dk
open Sm Ft
set_option linter.unusedSimpArgs false
set_option linter.unusedVariables false

theorem vi {k : IntKind} {a b : Int} (h : a = b) : Value.int k a = Value.int k b := by rw [h]

theorem plainE (n : Nat) (h : n ≤ 24) (w : World) (hg : Er.Handle w) : Calls Tryd.prog 7 #[errE n, nu n] w fun e w' => e = .returned (.bool true) ∧ Below w.heap.size w w' := by
  cases n with
  | zero => exact Er.plain_nil 0 w
  | succ n =>
    have := Er.plain_no (n + 1) ((n + 1 : Nat) : Int) (by omega) h w hg
    rw [decide_eq_true rfl] at this
    exact this

theorem errE_shape (n : Nat) : errE n = .nilIface ∨ ∃ t x, errE n = .iface t x := by
  cases n with
  | zero => exact .inl rfl
  | succ n => exact .inr ⟨_, _, rfl⟩

set_option maxRecDepth 100000 in
set_option maxHeartbeats 4000000 in
theorem read_any {Rep : World → Nat → (Nat → Prop) → Dsk → Prop} (H : Says Rep) (w : World) (base p : Nat) (F : Nat → Prop) (g : Nat) (v : Value) (d : Dsk)
    (hP : Pr Rep w base p F g v d) (ht : d.tr.length < 900000) (hn : 1 ≤ d.n ∧ d.n ≤ 4096) (hE : Er.Handle w) :
    Calls Tryd.prog 10 #[ptr p, ptr g] w fun e w' => e = .returned (.bool true) ∧ Below w.heap.size w w' := by
  have HH := Hid.mk' H
  have HP := Hid.mk' hP
  have HE := Hid.mk' hE
  clear hP H hE
  go_enter Tryd.func10, Tryd.ntmps10
  go_wp2
  go_loopw [5, 6, 7, 8, 9] (fun iv _ _ _ _ wr => ∃ k : Nat, k ≤ 66 ∧ iv = nu ((k : Int) - 1) ∧ Hid (Below w.heap.size w wr)) (fun iv _ _ _ _ _ => 66 - (intOf iv + 1).toNat)
  case atStart => exact ⟨0, by omega, rfl, Below.refl _ _⟩
  case round =>
    obtain ⟨k, hk, rfl, hB⟩ := hrel
    obtain ⟨r0, r1, r2⟩ := (HP.out.below HH.out hB.out).ref.cells
    obtain ⟨i, hi⟩ : ∃ i : Int, (k : Int) - 1 = i := ⟨_, rfl⟩
    have HI := Hid.mk' hi
    rw [hi]
    have hi1 : -1 ≤ i := by omega
    have hi2 : i ≤ 65 := by omega
    clear hi
    by_cases h1 : i ≤ d.n
    · by_cases h2 : i ≤ 64
      · have c1 := rRead_any d base g v i wr (HP.out.below HH.out hB.out).ref (by omega)
        have c2 := HH.out.read wr p F d i (HP.out.below HH.out hB.out).rep (by omega) (by omega)
        have cP : Hid (∀ wx, Below wr.heap.size wr wx → Calls Tryd.prog 7 #[errE (rdN d i), nu (rdN d i)] wx fun e w' => e = .returned (.bool true) ∧ Below wx.heap.size wx w') := fun wx hb => plainE _ (rdN_le d i) wx ((HE.out.below hB.out).below hb)
        generalize tx (rdT d i) = f at *
        generalize hen : errE (rdN d i) = en at *
        generalize (rdN d i : Int) = m at *
        clear r1 r2 hen
        go_wp2_with fail
        refine c1.mono ?_
        rintro e w' ⟨rfl, hw⟩
        subst w'
        go_wp2_with fail
        refine c2.mono ?_
        rintro e w2 ⟨rfl, hb2⟩
        have c3 := cP.out w2 hb2
        have hB2 := Hid.mk' (below_fromR hB.out hb2)
        clear c1 c2 cP hb2 r0
        go_wp2_with fail
        refine c3.mono ?_
        rintro e w3 ⟨rfl, hb3⟩
        have hB3 := Hid.mk' (below_fromR hB2.out hb3)
        clear c3 hb3 hB2
        go_wp2
        go_roundw
        case rel => exact ⟨k + 1, by have := HI.out; omega, vi (by rw [← HI.out]; omega), hB3⟩
        case measure => simp [intOf]; omega
      · go_wp2
        go_ret
        exact ⟨rfl, hB.out⟩
    · go_wp2
      go_ret
      exact ⟨rfl, hB.out⟩

/-- An act as it comes in. -/
@[reducible] def actV (k n : Int) (s : List UInt8) : Value := .agg #[nu k, nu n, .string (tx s)]

theorem act_cells {w : World} {g : Nat} {k n : Int} {f : ByteArray} (h : w.heap[g]? = some (.cells #[nu k, nu n, .string f] 46)) : w.cell? ⟨g, 0, none⟩ = some (nu k) ∧ w.cell? ⟨g, 1, none⟩ = some (nu n) ∧ w.cell? ⟨g, 2, none⟩ = some (.string f) := by
  simp [World.cell?, h]

theorem Handle.keep {w w' : World} {G : Nat → Prop} (h : Er.Handle w) (hk : Keep G w w') (hG : ¬ G 0) : Er.Handle w' := (hk.cell (p := ⟨0, 0, none⟩) h.lt hG).trans h

/-- The cells of an act that is asked. -/
@[reducible] def ActS (B : Nat) (n : Int) (f : ByteArray) (w : World) : Prop := w.cell? ⟨B, 1, none⟩ = some (nu n) ∧ w.cell? ⟨B, 2, none⟩ = some (.string f)

/-- Behind the program's write. -/
def Half (Rep : World → Nat → (Nat → Prop) → Dsk → Prop) (w wa : World) (p : Nat) (F : Nat → Prop) (d' : Dsk) : Prop := ∃ F', Rep wa p F' d' ∧ Keep F w wa ∧ Goes w F F'

/-- One write on both, at what is new behind w: the program's, the document's, and the two answers. -/
theorem writes_c {Rep : World → Nat → (Nat → Prop) → Dsk → Prop} (H : Says Rep) (w w0 : World) (base p g gb : Nat) (F : Nat → Prop) (v : Value) (d : Dsk) (rv : Value) (vs : List Value) (B i1 i2 : Nat) (n : Int) (s : List UInt8)
    (hS : St Rep w base p g gb F v d rv vs) (ht : d.tr.length < 800000) (hn : -9223372036854775808 ≤ n ∧ n ≤ 9223372036854775807) (hs : s.length ≤ maxLen) (hE : Er.Handle w) (hEb : 0 < base)
    (hb0 : Below w.heap.size w w0) (hB : w.heap.size ≤ B) (a1 : w0.cell? ⟨B, i1, none⟩ = some (nu n)) (a2 : w0.cell? ⟨B, i2, none⟩ = some (.string (tx s))) :
    (∀ wx, Below w0.heap.size w0 wx → Calls Tryd.prog 14 #[ptr p, nu n, .string (tx s)] wx fun e wa => e = .returned (errE (wrN d n s)) ∧ Half Rep w wa p F (wrD d n s) ∧ (wa.cell? ⟨B, i1, none⟩ = some (nu n) ∧ wa.cell? ⟨B, i2, none⟩ = some (.string (tx s)))) ∧
    (∀ wa, Half Rep w wa p F (wrD d n s) → (wa.cell? ⟨B, i1, none⟩ = some (nu n) ∧ wa.cell? ⟨B, i2, none⟩ = some (.string (tx s))) → Calls Tryd.prog 15 #[ptr g, nu n, .string (tx s)] wa fun e wb => e = .returned (nu (wrN d n s)) ∧ Acted Rep w wb base p g gb F v d rv vs ∧ Er.Handle wb ∧ (wb.cell? ⟨B, i1, none⟩ = some (nu n) ∧ wb.cell? ⟨B, i2, none⟩ = some (.string (tx s)))) ∧
    (∀ wb, Acted Rep w wb base p g gb F v d rv vs → Er.Handle wb → (wb.cell? ⟨B, i1, none⟩ = some (nu n) ∧ wb.cell? ⟨B, i2, none⟩ = some (.string (tx s))) → Calls Tryd.prog 7 #[errE (wrN d n s), nu (wrN d n s)] wb fun e wc => e = .returned (.bool true) ∧ Acted Rep w wc base p g gb F v d rv vs ∧ (wc.cell? ⟨B, i1, none⟩ = some (nu n) ∧ wc.cell? ⟨B, i2, none⟩ = some (.string (tx s)))) := by
  have hlt0 : B < w0.heap.size := World.block_lt_of_cell? w0 _ a1
  have hoff : ∀ x, afp F g v gb rv vs x → x < w.heap.size := fun x hx => (hS.lt H x hx).2
  refine ⟨fun wx hbx => ?_, fun wa hh ha => ?_, fun wb h1 h2 h3 => ?_⟩
  · have hbw := below_fromR hb0 hbx
    refine (H.write wx p F d n s (hS.pr.below H hbw).rep (by omega) hn hs).mono ?_
    rintro e wa ⟨rfl, F', h1, h2, h3⟩
    have hnF : ¬ F B := fun hf => by
      have := hoff _ (.inl (.inl hf))
      omega
    have hBx : B < wx.heap.size := Nat.lt_of_lt_of_le hlt0 hbx.size
    refine ⟨rfl, ⟨F', h1, (Keep.of_below (F := F) hbw).trans h2 (fun _ _ hf => hf), fun k hk => ?_⟩, ?_, ?_⟩
    · rcases h3 k hk with h | h
      · exact .inl h
      · exact .inr (Nat.le_trans hbw.size h)
    · exact (h2.cell (p := ⟨B, i1, none⟩) hBx hnF).trans ((hbx.cell (p := ⟨B, i1, none⟩) hlt0).trans a1)
    · exact (h2.cell (p := ⟨B, i2, none⟩) hBx hnF).trans ((hbx.cell (p := ⟨B, i2, none⟩) hlt0).trans a2)
  · obtain ⟨F', h1, h2, h3⟩ := hh
    have hR := hS.pr.ref.keep h2 (fun x hr hf => hS.pr.fr x hf hr)
    refine (rWrite_any d base g v n s wa hR (by omega) (Nat.le_trans hS.lo h2.size) hs (by have := hS.left; omega)).mono ?_
    rintro e wb ⟨rfl, v', hr', hk', hm'⟩
    have hAc := Acted.pair H hS h1 h2 h3 hr' hk' hm' (wrD_left d n s hS.left) (wrD_n d n s) (wrD_tr d n s)
    have hE1 : Er.Handle wa := Handle.keep hE h2 (fun hf => by
      have := hS.pr.fl _ hf
      omega)
    have hnr : ¬ rfp g v B := fun hf => by
      have := hoff _ (.inl (.inr hf))
      omega
    have hlb : B < wa.heap.size := World.block_lt_of_cell? wa _ ha.1
    refine ⟨rfl, hAc, Handle.keep hE1 hk' (fun hf => by
      have := (hS.pr.ref.lt _ hf).1
      omega), ?_, ?_⟩
    · exact (hk'.cell (p := ⟨B, i1, none⟩) hlb hnr).trans ha.1
    · exact (hk'.cell (p := ⟨B, i2, none⟩) hlb hnr).trans ha.2
  · exact (plainE _ (wrN_le d n s) wb h2).mono (by
      rintro e wc ⟨rfl, hb⟩
      exact ⟨rfl, h1.more H hb, keepS (wr := wb) hb h3.1, keepS (wr := wb) hb h3.2⟩)

set_option maxRecDepth 100000 in
set_option maxHeartbeats 8000000 in
theorem does_write {Rep : World → Nat → (Nat → Prop) → Dsk → Prop} (H : Says Rep) (w : World) (base p g gb : Nat) (F : Nat → Prop) (v : Value) (d : Dsk) (rv : Value) (vs : List Value) (k n : Int) (s : List UInt8)
    (hS : St Rep w base p g gb F v d rv vs) (ht : d.tr.length < 800000) (hk : -9223372036854775808 ≤ k ∧ k ≤ 9223372036854775807) (hn : -9223372036854775808 ≤ n ∧ n ≤ 9223372036854775807) (hs : s.length ≤ maxLen) (hE : Er.Handle w) (hEb : 0 < base) (hm : k % 5 = 0 ∨ k % 5 = 1) :
    Calls Tryd.prog 8 #[ptr p, ptr g, actV k n s, ptr gb] w fun e w' => e = .returned (.bool true) ∧ Acted Rep w w' base p g gb F v d rv vs := by
  have cK := pick_any k 5 (w.alloc (.cells #[nu k, nu n, .string (tx s)] 46)) (by decide) (by decide) hk
  have hb0 : Below w.heap.size w (w.alloc (.cells #[nu k, nu n, .string (tx s)] 46)) := (Below.refl _ _).alloc (Nat.le_refl _) _
  have hA0 : (w.alloc (.cells #[nu k, nu n, .string (tx s)] 46)).heap[w.heap.size]? = some (.cells #[nu k, nu n, .string (tx s)] 46) := heap_alloc_new _ _
  obtain ⟨w0, hw0⟩ : ∃ w0, w.alloc (.cells #[nu k, nu n, .string (tx s)] 46) = w0 := ⟨_, rfl⟩
  rw [hw0] at cK hb0 hA0
  obtain ⟨a0, a1, a2⟩ := act_cells hA0
  have hlt0 : w.heap.size < w0.heap.size := (Array.getElem?_eq_some_iff.1 hA0).1
  obtain ⟨D1, D2, D3⟩ := writes_c H w w0 base p g gb F v d rv vs w.heap.size 1 2 n s hS ht hn hs hE hEb hb0 (Nat.le_refl _) a1 a2
  have C1 := Hid.mk' D1
  have C2 := Hid.mk' D2
  have C3 := Hid.mk' D3
  clear D1 D2 D3
  have hB1 : Hid (Below w0.heap.size w0 w0.drew) := (Below.refl _ _).drew
  have hS1 : ActS w.heap.size n (tx s) w0.drew := ⟨a1, a2⟩
  have HS0 : Hid (ActS w.heap.size n (tx s) w0) := ⟨a1, a2⟩
  unfold actV
  generalize errE (wrN d n s) = en at *
  generalize (wrN d n s : Int) = no at *
  generalize tx s = f at *
  clear hb0 hA0 hlt0 hS hE hEb hn hs hk ht H
  rcases hm with hm | hm
  · rw [show ((5 : Nat) : Int) = 5 from rfl, hm] at cK
    clear hm
    go_enter Tryd.func8, Tryd.ntmps8
    go_wp2_with fail
    refine cK.mono ?_
    rintro e w' ⟨rfl, hw⟩
    subst w'
    clear hw0 cK
    go_wp2_with fail
    go_region_held3 (fun w' => w'.cell? ⟨w.heap.size, 1, none⟩ = some (nu n) ∧ w'.cell? ⟨w.heap.size, 2, none⟩ = some (.string f)) (first | assumption | fail) (first | (go_at_call 14; with_reducible refine (C1.out _ hB1.out).mono ?_; rintro e wa ⟨rfl, hHa, hSa⟩) | (go_at_call 15; with_reducible refine (C2.out _ hHa hSa).mono ?_; rintro e wb ⟨rfl, hAb, hEb, hSb⟩) | (go_at_call 7; with_reducible refine (C3.out _ hAb hEb hSb).mono ?_; rintro e wc ⟨rfl, hAc, hSc⟩) | fail)
    have HA := Hid.mk' hAc
    clear hHa hSa hAb hEb hSb hAc hSc C1 C2 C3 hS1 HS0 hB1 a0 a1 a2
    go_wp2
    go_ret
    exact ⟨rfl, HA.out⟩
  · rw [show ((5 : Nat) : Int) = 5 from rfl, hm] at cK
    clear hm
    go_enter Tryd.func8, Tryd.ntmps8
    go_wp2_with fail
    refine cK.mono ?_
    rintro e w' ⟨rfl, hw⟩
    subst w'
    clear hw0 cK
    go_wp2_with fail
    go_region_held3 (fun w' => w'.cell? ⟨w.heap.size, 1, none⟩ = some (nu n) ∧ w'.cell? ⟨w.heap.size, 2, none⟩ = some (.string f)) (first | assumption | fail) (first | (go_at_call 14; with_reducible refine (C1.out _ hB1.out).mono ?_; rintro e wa ⟨rfl, hHa, hSa⟩) | (go_at_call 15; with_reducible refine (C2.out _ hHa hSa).mono ?_; rintro e wb ⟨rfl, hAb, hEb, hSb⟩) | (go_at_call 7; with_reducible refine (C3.out _ hAb hEb hSb).mono ?_; rintro e wc ⟨rfl, hAc, hSc⟩) | fail)
    have HA := Hid.mk' hAc
    clear hHa hSa hAb hEb hSb hAc hSc C1 C2 C3 hS1 HS0 hB1 a0 a1 a2
    go_wp2
    go_ret
    exact ⟨rfl, HA.out⟩

theorem Acted.read {Rep : World → Nat → (Nat → Prop) → Dsk → Prop} (H : Says Rep) {w w' : World} {base p g gb : Nat} {F : Nat → Prop} {v : Value} {d : Dsk} {rv : Value} {vs : List Value} (h : St Rep w base p g gb F v d rv vs) (hb : Below w.heap.size w w') : Acted Rep w w' base p g gb F v d rv vs := Acted.of_below H h hb

set_option maxRecDepth 100000 in
set_option maxHeartbeats 8000000 in
theorem does_read {Rep : World → Nat → (Nat → Prop) → Dsk → Prop} (H : Says Rep) (w : World) (base p g gb : Nat) (F : Nat → Prop) (v : Value) (d : Dsk) (rv : Value) (vs : List Value) (k n : Int) (s : List UInt8)
    (hS : St Rep w base p g gb F v d rv vs) (ht : d.tr.length < 800000) (hk : -9223372036854775808 ≤ k ∧ k ≤ 9223372036854775807) (hn : -9223372036854775808 ≤ n ∧ n ≤ 9223372036854775807) (hE : Er.Handle w) (hm : k % 5 = 2) :
    Calls Tryd.prog 8 #[ptr p, ptr g, actV k n s, ptr gb] w fun e w' => e = .returned (.bool true) ∧ Acted Rep w w' base p g gb F v d rv vs := by
  have cK := pick_any k 5 (w.alloc (.cells #[nu k, nu n, .string (tx s)] 46)) (by decide) (by decide) hk
  rw [show ((5 : Nat) : Int) = 5 from rfl, hm] at cK
  have hb0 : Below w.heap.size w (w.alloc (.cells #[nu k, nu n, .string (tx s)] 46)) := (Below.refl _ _).alloc (Nat.le_refl _) _
  have hA0 : (w.alloc (.cells #[nu k, nu n, .string (tx s)] 46)).heap[w.heap.size]? = some (.cells #[nu k, nu n, .string (tx s)] 46) := heap_alloc_new _ _
  obtain ⟨w0, hw0⟩ : ∃ w0, w.alloc (.cells #[nu k, nu n, .string (tx s)] 46) = w0 := ⟨_, rfl⟩
  rw [hw0] at cK hb0 hA0
  obtain ⟨a0, a1, a2⟩ := act_cells hA0
  have hlt0 : w.heap.size < w0.heap.size := (Array.getElem?_eq_some_iff.1 hA0).1
  have hP0 := hS.pr.below H hb0
  have c1 := rRead_any d base g v n w0 hP0.ref (by omega)
  have c2 := H.read w0 p F d n hP0.rep (by omega) hn
  have cP : Hid (∀ wx, Below w0.heap.size w0 wx → Calls Tryd.prog 7 #[errE (rdN d n), nu (rdN d n)] wx fun e w' => e = .returned (.bool true) ∧ Below wx.heap.size wx w') := fun wx hb => plainE _ (rdN_le d n) wx ((hE.below hb0).below hb)
  have HA : Hid (∀ wx, Below w.heap.size w wx → Acted Rep w wx base p g gb F v d rv vs) := fun wx hb => Acted.of_below H hS hb
  have HB0 := Hid.mk' hb0
  unfold actV
  generalize tx (rdT d n) = f2 at *
  generalize errE (rdN d n) = en at *
  generalize (rdN d n : Int) = m at *
  generalize tx s = f at *
  clear hP0 hS hE hA0 hb0 hk hn ht hm H
  go_enter Tryd.func8, Tryd.ntmps8
  go_wp2_with fail
  refine cK.mono ?_
  rintro e w' ⟨rfl, hw⟩
  subst w'
  clear hw0 cK
  go_wp2_with fail
  refine c1.mono ?_
  rintro e w' ⟨rfl, hw⟩
  subst w'
  go_wp2_with fail
  refine c2.mono ?_
  rintro e w2 ⟨rfl, hb2⟩
  have c3 := cP.out w2 hb2
  have hB2 := Hid.mk' (below_fromR HB0.out hb2)
  clear c1 c2 cP hb2 a0 a1 a2
  go_wp2_with fail
  refine c3.mono ?_
  rintro e w3 ⟨rfl, hb3⟩
  have hB3 := Hid.mk' (below_fromR hB2.out hb3)
  clear c3 hb3 hB2
  go_wp2
  go_ret
  exact ⟨rfl, HA.out _ hB3.out⟩

set_option maxRecDepth 100000 in
set_option maxHeartbeats 8000000 in
theorem does_asked {Rep : World → Nat → (Nat → Prop) → Dsk → Prop} (H : Says Rep) (w : World) (base p g gb : Nat) (F : Nat → Prop) (v : Value) (d : Dsk) (rv : Value) (vs : List Value) (k n : Int) (s : List UInt8)
    (hS : St Rep w base p g gb F v d rv vs) (ht : d.tr.length < 800000) (hv : vs.length < 800000) (hk : -9223372036854775808 ≤ k ∧ k ≤ 9223372036854775807) (hm : k % 5 = 4) :
    Calls Tryd.prog 8 #[ptr p, ptr g, actV k n s, ptr gb] w fun e w' => e = .returned (.bool true) ∧ Acted Rep w w' base p g gb F v d rv vs := by
  have cK := pick_any k 5 (w.alloc (.cells #[nu k, nu n, .string (tx s)] 46)) (by decide) (by decide) hk
  rw [show ((5 : Nat) : Int) = 5 from rfl, hm] at cK
  have hb0 : Below w.heap.size w (w.alloc (.cells #[nu k, nu n, .string (tx s)] 46)) := (Below.refl _ _).alloc (Nat.le_refl _) _
  have hA0 : (w.alloc (.cells #[nu k, nu n, .string (tx s)] 46)).heap[w.heap.size]? = some (.cells #[nu k, nu n, .string (tx s)] 46) := heap_alloc_new _ _
  obtain ⟨w0, hw0⟩ : ∃ w0, w.alloc (.cells #[nu k, nu n, .string (tx s)] 46) = w0 := ⟨_, rfl⟩
  rw [hw0] at cK hb0 hA0
  obtain ⟨a0, a1, a2⟩ := act_cells hA0
  have hS0 := hS.below H hb0
  have c1 := asked_any H w0 base p F g v d gb rv vs hS0.pr hS0.bk (by omega) (by omega) hS0.lo
  have HA : Hid (∀ wx, (∃ rv' t, Bk wx base gb rv' (vs ++ [t]) ∧ Keep (bfp gb rv vs) w0 wx ∧ Goes w0 (bfp gb rv vs) (bfp gb rv' (vs ++ [t]))) → Acted Rep w wx base p g gb F v d rv vs) := fun wx ⟨rv', t, h1, h2, h3⟩ => Acted.from hb0 (Acted.book H hS0 h1 h2 h3)
  unfold actV
  generalize tx s = f at *
  clear hS hA0 hb0 hk ht hm hv hS0 H
  go_enter Tryd.func8, Tryd.ntmps8
  go_wp2_with fail
  refine cK.mono ?_
  rintro e w' ⟨rfl, hw⟩
  subst w'
  clear hw0 cK
  go_wp2_with fail
  refine c1.mono ?_
  rintro e w1 ⟨rfl, hR⟩
  have HR := Hid.mk' (HA.out _ hR)
  clear hR c1 HA a0 a1 a2
  go_wp2
  go_ret
  exact ⟨rfl, HR.out⟩

set_option maxRecDepth 100000 in
set_option maxHeartbeats 8000000 in
theorem does_cut {Rep : World → Nat → (Nat → Prop) → Dsk → Prop} (H : Says Rep) (w : World) (base p g gb : Nat) (F : Nat → Prop) (v : Value) (d : Dsk) (rv : Value) (vs : List Value) (k n : Int) (s : List UInt8)
    (hS : St Rep w base p g gb F v d rv vs) (hk : -9223372036854775808 ≤ k ∧ k ≤ 9223372036854775807) (hn : -9223372036854775808 ≤ n ∧ n ≤ 9223372036854775807) (hm : k % 5 = 3) :
    Calls Tryd.prog 8 #[ptr p, ptr g, actV k n s, ptr gb] w fun e w' => e = .returned (.bool true) ∧ Acted Rep w w' base p g gb F v d rv vs := by
  have cK := pick_any k 5 (w.alloc (.cells #[nu k, nu n, .string (tx s)] 46)) (by decide) (by decide) hk
  rw [show ((5 : Nat) : Int) = 5 from rfl, hm] at cK
  have hb0 : Below w.heap.size w (w.alloc (.cells #[nu k, nu n, .string (tx s)] 46)) := (Below.refl _ _).alloc (Nat.le_refl _) _
  have hA0 : (w.alloc (.cells #[nu k, nu n, .string (tx s)] 46)).heap[w.heap.size]? = some (.cells #[nu k, nu n, .string (tx s)] 46) := heap_alloc_new _ _
  obtain ⟨w0, hw0⟩ : ∃ w0, w.alloc (.cells #[nu k, nu n, .string (tx s)] 46) = w0 := ⟨_, rfl⟩
  rw [hw0] at cK hb0 hA0
  obtain ⟨a0, a1, a2⟩ := act_cells hA0
  have hlt0 : w.heap.size < w0.heap.size := (Array.getElem?_eq_some_iff.1 hA0).1
  have hS0 := hS.below H hb0
  have hoff : ¬ F w.heap.size := fun hf => by
    have := H.lt hS.pr.rep _ hf
    omega
  have C2 : Hid (∀ wa, (∃ F', Rep wa p F' ⟨d.n, max n (-1), d.tr⟩ ∧ Keep F w0 wa ∧ Goes w0 F F') → Calls Tryd.prog 24 #[ptr g, nu n] wa fun e wb => (∃ u, e = .returned u) ∧ Acted Rep w wb base p g gb F v d rv vs) := fun wa ⟨F', h1, h2, h3⟩ => by
    have hR := hS0.pr.ref.keep h2 (fun x hr hf => hS0.pr.fr x hf hr)
    refine (rCut_any d base g v n wa hR).mono ?_
    rintro e wb ⟨hu, hr', hk'⟩
    exact ⟨hu, Acted.from hb0 (Acted.pair H hS0 h1 h2 h3 hr' hk' (Moves.refl _ _) (by show -1 ≤ max n (-1) ∧ max n (-1) ≤ 9223372036854775807; omega) rfl (by show d.tr.length ≤ _; omega))⟩
  have hcell : Hid (∀ wa, Keep F w0 wa → wa.cell? ⟨w.heap.size, 1, none⟩ = some (nu n)) := fun wa h => (h.cell (p := ⟨w.heap.size, 1, none⟩) hlt0 hoff).trans a1
  have cC := H.cut w0 p F d n hS0.pr.rep hn
  have cR := H.restore w0 p F d hS0.pr.rep
  unfold actV
  generalize tx s = f at *
  by_cases h2 : n = -2
  · subst h2
    clear hS hA0 hb0 hk hm hS0 H cC hoff
    go_enter Tryd.func8, Tryd.ntmps8
    go_wp2_with fail
    refine cK.mono ?_
    rintro e w' ⟨rfl, hw⟩
    subst w'
    clear hw0 cK
    go_wp2_with fail
    refine cR.mono ?_
    rintro e w1 ⟨⟨u, rfl⟩, F', h1, h2, h3⟩
    have z1 := hcell.out w1 h2
    have c2 := C2.out w1 ⟨F', h1, h2, h3⟩
    clear cR h1 h2 h3 a0 a1 a2 C2 hcell
    go_wp2_with fail
    refine c2.mono ?_
    rintro e w2 ⟨⟨u2, rfl⟩, hA⟩
    have HA := Hid.mk' hA
    clear hA c2 z1
    go_wp2
    go_ret
    exact ⟨rfl, HA.out⟩
  · have hne : (n == -2) = false := by simp [h2]
    clear hS hA0 hb0 hk hm hS0 H cR hoff
    go_enter Tryd.func8, Tryd.ntmps8
    go_wp2_with fail
    refine cK.mono ?_
    rintro e w' ⟨rfl, hw⟩
    subst w'
    clear hw0 cK
    go_wp2_with fail
    refine cC.mono ?_
    rintro e w1 ⟨⟨u, rfl⟩, F', h1, h2, h3⟩
    have z1 := hcell.out w1 h2
    have c2 := C2.out w1 ⟨F', h1, h2, h3⟩
    clear cC h1 h2 h3 a0 a1 a2 C2 hcell
    go_wp2_with fail
    refine c2.mono ?_
    rintro e w2 ⟨⟨u2, rfl⟩, hA⟩
    have HA := Hid.mk' hA
    clear hA c2 z1
    go_wp2
    go_ret
    exact ⟨rfl, HA.out⟩

theorem does_any {Rep : World → Nat → (Nat → Prop) → Dsk → Prop} (H : Says Rep) (w : World) (base p g gb : Nat) (F : Nat → Prop) (v : Value) (d : Dsk) (rv : Value) (vs : List Value) (k n : Int) (s : List UInt8)
    (hS : St Rep w base p g gb F v d rv vs) (ht : d.tr.length < 800000) (hv : vs.length < 800000) (hk : -9223372036854775808 ≤ k ∧ k ≤ 9223372036854775807) (hn : -9223372036854775808 ≤ n ∧ n ≤ 9223372036854775807) (hs : s.length ≤ maxLen) (hE : Er.Handle w) (hEb : 0 < base) :
    Calls Tryd.prog 8 #[ptr p, ptr g, actV k n s, ptr gb] w fun e w' => e = .returned (.bool true) ∧ Acted Rep w w' base p g gb F v d rv vs := by
  have hm : k % 5 = 0 ∨ k % 5 = 1 ∨ k % 5 = 2 ∨ k % 5 = 3 ∨ k % 5 = 4 := by omega
  rcases hm with hm | hm | hm | hm | hm
  · exact does_write H w base p g gb F v d rv vs k n s hS ht hk hn hs hE hEb (.inl hm)
  · exact does_write H w base p g gb F v d rv vs k n s hS ht hk hn hs hE hEb (.inr hm)
  · exact does_read H w base p g gb F v d rv vs k n s hS ht hk hn hE hm
  · exact does_cut H w base p g gb F v d rv vs k n s hS hk hn hm
  · exact does_asked H w base p g gb F v d rv vs k n s hS ht hv hk hm
end Dk
end Go.Proofs.YtcglehekiibgeaaDoor
