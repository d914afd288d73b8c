/- WalkKnown's examples: out of the contracts. -/
import Derived.Test.YtbkcpjgaoncioaaWlkT
namespace Go.Proofs.Ytbkcpjgaoncioaa
set_option linter.ambiguousOpen false
open Go.RowKit
namespace Wk
open An Ft Lv
set_option linter.unusedSimpArgs false
set_option linter.unusedVariables false

@[reducible] def sK (u d : Bool) (b us ub : Int) : Slt := ⟨u, d, 0, 0, 0, ⟨0, b, us, ub, 0, ⟨#[]⟩, ⟨#[]⟩, 0, 0, 0, 0, 0⟩, slt0.tx⟩

@[reducible] def zK : Slt := sK true false 5 0 0

@[reducible] def yK : Slt := sK true false 6 0 5

@[reducible] def xK : Slt := sK true false 9 1 6

theorem lone_alloc {w : World} {b : Nat} {x : Slt} (h : Lone w b x) (o : Obj) : Lone (w.alloc o) b x := (heap_alloc_old _ _ (Array.getElem?_eq_some_iff.1 h).1).trans h

theorem lone_lt {w : World} {b : Nat} {x : Slt} (h : Lone w b x) : b < w.heap.size := (Array.getElem?_eq_some_iff.1 h).1

@[reducible] def sA (u d : Bool) (b us ub : Int) : Array Value := #[.bool u, .bool d, .int .i64 0, .int .i64 0, .int .i64 0, .int .i64 0, .int .i64 b, .int .i64 us, .int .i64 ub, .int .i64 0, .string ⟨#[]⟩, .string ⟨#[]⟩, .int .u64 0, .int .i64 0, .int .i64 0, .int .i64 0, .int .i64 0]

theorem lone_sA (w : World) (u d : Bool) (b us ub : Int) : Lone (w.alloc (.cells (sA u d b us ub) 52)) w.heap.size (sK u d b us ub) := heap_alloc_new _ _

set_option maxRecDepth 100000 in
theorem fill3 (x y z : Slt) : Instr.fill (fun i => some (i * 17, 17)) ((Array.range (3 * 17)).map (slt0.v.cells[· % slt0.v.cells.size]!)) [(0, x.v), (1, y.v), (2, z.v)] = some (scs [x, y, z]).toArray := by kernel_rfl

set_option maxRecDepth 100000 in
theorem run_build3 (x y z : Slt) (w : World) : (Instr.buildSlice 22 3 #[(0, x.v), (1, y.v), (2, z.v)]).run Try.prog w = .ok (.slice (some ⟨w.heap.size, 0, none⟩) 3 3) (w.alloc (.cells (scs [x, y, z]).toArray 52)) := by
  obtain ⟨i0, ji, hz0, hz1, hz2⟩ := info_parts info_slt
  have hf := fill3 x y z
  rw [← hz1] at hf
  have h1 : ¬ 3 * i0.size > 2 ^ 24 := by rw [hz1]; decide
  have h2 : ¬ 3 * i0.size = 0 := by rw [hz1]; decide
  simp [Instr.buildSlice, run_underlying Try.underlying22, sizeOf, typeInfo, zeroValue, ji, hz0, h1, h2, hf, newRow]

theorem wp_build3 {o : Oper} {a : Act} {w : World} {K : Act → World → Prop} {Q : Exit → Act → World → Prop} (p q r : Operand) (ho : o.op = .buildSlice 22 3 #[(0, p), (1, q), (2, r)])
    (x y z : Slt) (hp : a.eval p = x.v) (hq : a.eval q = y.v) (hr : a.eval r = z.v)
    (h : K (a.put o.dst (.slice (some ⟨w.heap.size, 0, none⟩) 3 3)) (w.alloc (.cells (scs [x, y, z]).toArray 52))) : o.wp Try.prog a w K Q := by
  have e : (#[(0, p), (1, q), (2, r)] : Array (Nat × Operand)).map (fun (i, x) => (i, a.eval x)) = #[(0, x.v), (1, y.v), (2, z.v)] := by
    simp [hp, hq, hr]
  unfold Oper.wp execOp
  simp only [ho, e, Sem.run_bind, run_build3, Result.andThen_ok]
  exact h

theorem wpList_build3 {ops : Array Oper} {rest : List Oper} {o : Oper} {a : Act} {w : World} {Q : Exit → Act → World → Prop} (hg : o.guard = none) (p q r : Operand) (ho : o.op = .buildSlice 22 3 #[(0, p), (1, q), (2, r)])
    (x y z : Slt) (hp : a.eval p = x.v) (hq : a.eval q = y.v) (hr : a.eval r = z.v)
    (h : wpList Try.prog ops Q rest (a.put o.dst (.slice (some ⟨w.heap.size, 0, none⟩) 3 3)) (w.alloc (.cells (scs [x, y, z]).toArray 52))) : wpList Try.prog ops Q (o :: rest) a w :=
  wpList_plain hg fun _ hK => wp_build3 p q r ho x y z hp hq hr (hK _ _ h)

theorem rdSl_new (w : World) (L : List Slt) (n : Nat) (hn : L.length = n) (hm : n ≤ 1000) : RdSl (w.alloc (.cells (scs L).toArray 52)) (.slice (some ⟨w.heap.size, 0, none⟩) n n) L := by
  subst hn
  refine ⟨_, _, rfl, Nat.le_refl _, by unfold maxLen; omega, fun _ => ⟨_, _, rfl, by simp, fun k x hx j v hv => ?_⟩⟩
  have hj : j < 17 := (List.getElem?_eq_some_iff.1 hv).1
  have hblk := heap_alloc_new w (.cells (scs L).toArray 52)
  rw [cell_of_row _ _ _ _ _ _ hblk, Nat.zero_add]
  simp only [List.getElem?_toArray]
  rw [scs_at L k x hx j hj]
  exact hv

/-- A new slot, written. -/
theorem new_slot {w w' : World} {base : Nat} (h : Below base w w') (hb : base ≤ w'.heap.size) {o : Obj} {w2 : World} (hg : (w'.alloc o).grownBy w2 (some w'.heap.size)) : Below base w w2 :=
  (h.alloc hb o).grown hg (by simp; omega) (fun r e => by cases e; exact hb)

/-- The arena, and a slot beside it. -/
structure Ar1 (Rep : World → Nat → (Nat → Prop) → Arn → Prop) (w0 w : World) (p : Nat) (A : Arn) (zb : Nat) (z : Slt) : Prop where
  rep : ∃ F, Rep w p F A ∧ (∀ k, F k → k ≠ zb ∧ w0.heap.size ≤ k)
  lone : Lone w zb z
  bel : Below w0.heap.size w0 w
  lo : w0.heap.size ≤ zb

section
variable {Rep : World → Nat → (Nat → Prop) → Arn → Prop} {w0 w w' : World} {p zb : Nat} {A : Arn} {z : Slt}

theorem Ar1.below (H : KeepC Rep) (h : Ar1 Rep w0 w p A zb z) (hb : Below w.heap.size w w') : Ar1 Rep w0 w' p A zb z := by
  obtain ⟨F, h1, h2⟩ := h.rep
  exact ⟨⟨F, H.below h1 hb, h2⟩, h.lone.below hb, h.bel.trans (hb.mono h.bel.size), h.lo⟩

theorem Ar1.lives (H : KeepC Rep) (C : WalkC Rep) (h : Ar1 Rep w0 w p A zb z) (hg : An.Good A) (us ub : Int) (hus : I64 us) (hub : I64 ub) (r : Bool) (n : Nat) (hr : livB A.sl us ub = r) (hn : livN A.sl us ub = n) :
    Calls Try.prog 9 #[ptr p, lkU us ub] w fun e w' => e = .returned (.tuple #[.bool r, nun n]) ∧ Hid (Ar1 Rep w0 w' p A zb z) := by
  obtain ⟨F, h1, h2⟩ := h.rep
  refine (C.lives w p F A us ub h1 hg hus hub).mono ?_
  rintro e w' ⟨rfl, hb⟩
  rw [hr, hn]
  exact ⟨rfl, h.below H hb⟩

theorem Ar1.path (H : KeepC Rep) (C : WalkC Rep) (h : Ar1 Rep w0 w p A zb z) (hg : An.Good A) (us ub : Int) (hus : I64 us) (hub : I64 ub) (L : List Nat) (hr : pth A.sl us ub = L) :
    Calls Try.prog 11 #[ptr p, lkU us ub] w fun e w' => ∃ a c, e = .returned (.slice a L.length c) ∧ Hid (Ar1 Rep w0 w' p A zb z ∧ w'.ownsRow w.heap.size 3 1 (.slice a L.length c) L.length (L.map nun)) := by
  obtain ⟨F, h1, h2⟩ := h.rep
  refine (C.path w p F A us ub h1 hg hus hub).mono ?_
  rintro e w' ⟨v, rfl, ho, hb⟩
  rw [hr] at ho
  obtain ⟨a, c, rfl, _⟩ := Nm.own_shape ho
  exact ⟨a, c, rfl, h.below H hb, ho⟩

theorem Ar1.put (H : KeepC Rep) (CP : PutC Rep) (h : Ar1 Rep w0 w p A zb z) (hg : An.Good A) (hw : A.wr ≤ 1000) (k : Nat) (hk : k < 32) (x : Slt) :
    Calls Try.prog 21 #[ptr p, nun k, x.v] w fun e w' => e = .returned .nilIface ∧ Hid (Ar1 Rep w0 w' p ⟨A.sl.set k x, A.fr, A.wr + 1⟩ zb z) := by
  obtain ⟨F, h1, h2⟩ := h.rep
  have := CP w p F A k x h1 hg (by omega) ⟨by omega, by omega⟩
  rw [show A.put (k : Int) x = (0, ⟨A.sl.set k x, A.fr, A.wr + 1⟩) by unfold Arn.put; rw [if_pos (by omega)]; rfl] at this
  refine this.mono ?_
  rintro e w' ⟨rfl, G, g1, g2, g3⟩
  have hz := lone_lt h.lone
  refine ⟨rfl, ⟨G, g1, fun k hk => ?_⟩, g2.at h.lone (fun hf => (h2 _ hf).1 rfl), h.bel.trans (g2.below (fun k hk hf => by have := (h2 _ hf).2; omega) h.bel.size), h.lo⟩
  rcases g3 k hk with hf | hf
  · exact h2 k hf
  · exact ⟨by omega, Nat.le_trans h.bel.size hf⟩

/-- The slot beside it, changed. -/
theorem Ar1.set (H : KeepC Rep) (h : Ar1 Rep w0 w p A zb z) {x : Slt} (hg : Keep (fun k => k = zb) w w') (hx : Lone w' zb x) : Ar1 Rep w0 w' p A zb x := by
  obtain ⟨F, h1, h2⟩ := h.rep
  exact ⟨⟨F, H.keep h1 hg (fun k hk e => (h2 k hk).1 e), h2⟩, hx, h.bel.trans (hg.below (fun k hk e => by have := h.lo; omega) h.bel.size), h.lo⟩
end

theorem said_facts : (livB (flS [zK, yK, xK] 3) 2 9 = true ∧ livN (flS [zK, yK, xK] 3) 2 9 = 2 ∧ pth (flS [zK, yK, xK] 3) 2 9 = [2, 1, 0]) ∧ livB ((flS [zK, yK, xK] 3).set 0 (sK true false 5 2 9)) 2 9 = false ∧ livN ((flS [zK, yK, xK] 3).set 0 (sK true false 5 2 9)) 2 9 = 6 ∧ pth ((flS [zK, yK, xK] 3).set 0 (sK true false 5 2 9)) 2 9 = [] := by decide +kernel

theorem lone_up {w : World} {b : Nat} {u d : Bool} {bi us ub : Int} (h : Lone w b (sK u d bi us ub)) (us' ub' : Int) : Lone ((w.setCell ⟨b, 7, none⟩ (nu us')).setCell ⟨b, 8, none⟩ (nu ub')) b (sK u d bi us' ub') := by
  have h1 : (w.setCell ⟨b, 7, none⟩ (nu us')).heap[b]? = some (.cells ((sK u d bi us ub).cells.toArray.setIfInBounds 7 (nu us')) 52) := by
    unfold Lone at h
    rw [heap_setCell_same _ b 7 _ _ _ h]
  unfold Lone
  rw [heap_setCell_same _ b 8 _ _ _ h1]
  rfl

set_option maxRecDepth 100000 in
set_option maxHeartbeats 4000000 in
theorem knownSaid_yes {Rep : World → Nat → (Nat → Prop) → Arn → Prop} (H : KeepC Rep) (CN : NewC Rep) (CP : PutC Rep) (C : WalkC Rep) (w : World) :
    Calls Try.prog 22 #[] w fun e w' => e = .returned (.bool true) ∧ Below w.heap.size w w' := by
  have c0 : Hid (∀ wx v, RdSl wx v [zK, yK, xK] → Calls Try.prog 7 #[v] wx fun e w' => ∃ p g, e = .returned (.tuple #[ptr p, ptr g, .bool true]) ∧ Two Rep wx w' p g ⟨flS [zK, yK, xK] 3, arn0.fr, 3⟩) := fun wx v h => filled_any H CN CP v _ wx h
  go_enter Try.func22, Try.ntmps22
  go_upto_region 4 with (first | (refine wpList_store_lone rfl _ _ rfl w.heap.size rfl zK rfl slt0 (lone_zero w) ?_; intro w1 hl1 hg1 hs1; have HZ1 := Hid.mk' hl1; have HB1 : Hid (Below w.heap.size w w1) := new_slot (Below.refl _ _) (Nat.le_refl _) hg1; have HS1 : Hid (w.heap.size < w1.heap.size) := lone_lt hl1; clear hl1 hg1 hs1) | (refine wpList_store_lone rfl _ _ rfl w1.heap.size rfl yK rfl slt0 (lone_zero w1) ?_; intro w2 hl2 hg2 hs2; have HY2 := Hid.mk' hl2; have HZ2 : Hid (Lone w2 w.heap.size zK) := (lone_alloc HZ1.out _).grown hg2 (by have := HS1.out; omega); have HB2 : Hid (Below w.heap.size w w2) := new_slot HB1.out HB1.out.size hg2; have HS2 : Hid (w1.heap.size < w2.heap.size) := lone_lt hl2; clear hl2 hg2 hs2) | (refine wpList_store_lone rfl _ _ rfl w2.heap.size rfl xK rfl slt0 (lone_zero w2) ?_; intro w3 hl3 hg3 hs3; have HX3 := Hid.mk' hl3; have HY3 : Hid (Lone w3 w1.heap.size yK) := (lone_alloc HY2.out _).grown hg3 (by have := HS2.out; omega); have HZ3 : Hid (Lone w3 w.heap.size zK) := (lone_alloc HZ2.out _).grown hg3 (by have := HS1.out; have := HS2.out; omega); have HB3 : Hid (Below w.heap.size w w3) := new_slot HB2.out HB2.out.size hg3; have HS3 : Hid (w2.heap.size < w3.heap.size) := lone_lt hl3; clear hl3 hg3 hs3) | fail)
  have hne : w.heap.size ≠ w3.heap.size := by have := lone_lt HZ3.out; omega
  have hlt : w.heap.size < w3.heap.size := lone_lt HZ3.out
  clear HZ1 HB1 HY2 HZ2 HB2 HS1 HS2 HS3
  obtain ⟨zb, hzb⟩ : ∃ zb, w.heap.size = zb := ⟨_, rfl⟩
  have HZB := Hid.mk' hzb
  rw [hzb] at HZ3 hlt
  rw [hzb]
  clear hzb hne
  go_wp2_with (first | (refine wpList_load_slt rfl _ rfl zb 0 rfl zK HZ3.out.range ?_) | (refine wpList_load_slt rfl _ rfl w1.heap.size 0 rfl yK HY3.out.range ?_) | (refine wpList_load_slt rfl _ rfl w2.heap.size 0 rfl xK HX3.out.range ?_) | (refine wpList_build3 rfl _ _ _ rfl zK yK xK rfl rfl rfl ?_) | fail)
  refine (c0.out _ _ (rdSl_new w3 [zK, yK, xK] 3 rfl (by omega))).mono ?_
  rintro e w4 ⟨p, g, rfl, hT⟩
  have HA4 : Hid (Ar1 Rep w w4 p ⟨flS [zK, yK, xK] 3, arn0.fr, 3⟩ zb zK) := by
    obtain ⟨F, G, h1⟩ := hT
    have hb := h1.bel
    have hs := h1.fl
    rw [World.size_alloc] at hs hb
    have hbb : Below w.heap.size w w4 := (HB3.out.alloc HB3.out.size _).trans (hb.mono (by have := HB3.out.size; omega))
    exact ⟨⟨F, h1.rep, fun k hk => ⟨by have := hs k hk; omega, by have := hs k hk; have := HB3.out.size; omega⟩⟩, ((lone_alloc HZ3.out _).below (by rw [World.size_alloc]; exact hb)), hbb, by have := HZB.out; omega⟩
  clear hT c0 HX3 HY3 HZ3 HB3
  have HG4 : Hid (An.Good ⟨flS [zK, yK, xK] 3, arn0.fr, 3⟩) := ⟨flS_len _ _, good0.nd, good0.lt⟩
  have HG5 : Hid (An.Good ⟨(flS [zK, yK, xK] 3).set 0 (sK true false 5 2 9), arn0.fr, 4⟩) := ⟨by rw [List.length_set]; exact flS_len _ _, good0.nd, good0.lt⟩
  have I2 : Hid (I64 2) := ⟨by decide, by decide⟩
  have I9 : Hid (I64 9) := ⟨by decide, by decide⟩
  have cL : Hid (∀ wx, Hid (Ar1 Rep w wx p ⟨flS [zK, yK, xK] 3, arn0.fr, 3⟩ zb zK) → Calls Try.prog 9 #[ptr p, lkU 2 9] wx fun e w' => e = .returned (.tuple #[.bool true, .int .i64 2]) ∧ Hid (Ar1 Rep w w' p ⟨flS [zK, yK, xK] 3, arn0.fr, 3⟩ zb zK)) := fun wx h => h.out.lives H C HG4.out 2 9 I2.out I9.out true 2 said_facts.1.1 said_facts.1.2.1
  have cP : Hid (∀ wx, Hid (Ar1 Rep w wx p ⟨flS [zK, yK, xK] 3, arn0.fr, 3⟩ zb zK) → Calls Try.prog 11 #[ptr p, lkU 2 9] wx fun e w' => ∃ a c, e = .returned (.slice a 3 c) ∧ Hid (Ar1 Rep w w' p ⟨flS [zK, yK, xK] 3, arn0.fr, 3⟩ zb zK ∧ w'.ownsRow wx.heap.size 3 1 (.slice a 3 c) 3 ([2, 1, 0].map nun) ∧ zb < wx.heap.size)) := fun wx h => by
    refine (h.out.path H C HG4.out 2 9 I2.out I9.out [2, 1, 0] said_facts.1.2.2).mono ?_
    rintro e w' ⟨a, c, rfl, h1, h2⟩
    exact ⟨a, c, rfl, h1, h2, lone_lt h.out.lone⟩
  have cU : Hid (∀ wx, Hid (Ar1 Rep w wx p ⟨flS [zK, yK, xK] 3, arn0.fr, 3⟩ zb (sK true false 5 2 9)) → Calls Try.prog 21 #[ptr p, .int .i64 0, .agg (sK true false 5 2 9).cells.toArray] wx fun e w' => e = .returned .nilIface ∧ Hid (Ar1 Rep w w' p ⟨(flS [zK, yK, xK] 3).set 0 (sK true false 5 2 9), arn0.fr, 4⟩ zb (sK true false 5 2 9))) := fun wx h => h.out.put H CP HG4.out (by simp) 0 (by omega) _
  have cM : Hid (∀ wx, Hid (Ar1 Rep w wx p ⟨(flS [zK, yK, xK] 3).set 0 (sK true false 5 2 9), arn0.fr, 4⟩ zb (sK true false 5 2 9)) → Calls Try.prog 9 #[ptr p, lkU 2 9] wx fun e w' => e = .returned (.tuple #[.bool false, .int .i64 6]) ∧ Hid (Ar1 Rep w w' p ⟨(flS [zK, yK, xK] 3).set 0 (sK true false 5 2 9), arn0.fr, 4⟩ zb (sK true false 5 2 9))) := fun wx h => h.out.lives H C HG5.out 2 9 I2.out I9.out false 6 said_facts.2.1 said_facts.2.2.1
  have cQ : Hid (∀ wx, Hid (Ar1 Rep w wx p ⟨(flS [zK, yK, xK] 3).set 0 (sK true false 5 2 9), arn0.fr, 4⟩ zb (sK true false 5 2 9)) → Calls Try.prog 11 #[ptr p, lkU 2 9] wx fun e w' => ∃ a c, e = .returned (.slice a 0 c) ∧ Hid (Ar1 Rep w w' p ⟨(flS [zK, yK, xK] 3).set 0 (sK true false 5 2 9), arn0.fr, 4⟩ zb (sK true false 5 2 9))) := fun wx h => by
    refine (h.out.path H C HG5.out 2 9 I2.out I9.out [] said_facts.2.2.2).mono ?_
    rintro e w' ⟨a, c, rfl, h1, h2⟩
    exact ⟨a, c, rfl, h1⟩
  have cW : Hid (∀ wx, Hid (Ar1 Rep w wx p ⟨(flS [zK, yK, xK] 3).set 0 (sK true false 5 2 9), arn0.fr, 4⟩ zb (sK true false 5 2 9)) → Calls Try.prog 17 #[] wx fun e w' => e = .returned (.bool true) ∧ Hid (Ar1 Rep w w' p ⟨(flS [zK, yK, xK] 3).set 0 (sK true false 5 2 9), arn0.fr, 4⟩ zb (sK true false 5 2 9))) := fun wx h => by
    refine (works_any H CN CP C wx).mono ?_
    rintro e w' ⟨rfl, hb⟩
    exact ⟨rfl, h.out.below H hb⟩
  have cS : Hid (∀ wx a c, Hid (wx.ownsRow 0 3 1 (.slice a 3 c) 3 ([2, 1, 0].map nun)) → Hid (Ar1 Rep w wx p ⟨flS [zK, yK, xK] 3, arn0.fr, 3⟩ zb (sK true false 5 2 9)) → Calls Try.prog 12 #[.slice a 3 c, .slice (some ⟨wx.heap.size, 0, none⟩) 3 3] (wx.alloc (.cells #[.int .i64 2, .int .i64 1, .int .i64 0] 3)) fun e w' => e = .returned (.bool true) ∧ Hid (Ar1 Rep w w' p ⟨flS [zK, yK, xK] 3, arn0.fr, 3⟩ zb (sK true false 5 2 9))) := fun wx a c ho h => by
    have hB : Below wx.heap.size wx (wx.alloc (.cells #[.int .i64 2, .int .i64 1, .int .i64 0] 3)) := (Below.refl _ _).alloc (Nat.le_refl _) _
    have hR : RdN (wx.alloc (.cells #[.int .i64 2, .int .i64 1, .int .i64 0] 3)) (.slice (some ⟨wx.heap.size, 0, none⟩) 3 3) [2, 1, 0] := own_rdN (base := wx.heap.size) (n := 3) ⟨rfl, .inr ⟨wx.heap.size, 3, _, rfl, Nat.le_refl _, heap_alloc_new _ _, Nat.le_refl _, by decide, rfl, rfl⟩⟩
    refine (sameN _ _ [2, 1, 0] _ ((own_rdN ho.out).below hB) hR).mono ?_
    rintro e w' ⟨rfl, hb⟩
    exact ⟨rfl, (h.out.below H hB).below H hb⟩
  have HK := Hid.mk' H
  clear HG4 HG5 I2 I9 H CN CP C
  go_wp2_with fail
  refine (cL.out _ HA4).mono ?_
  rintro e w5 ⟨rfl, HA5⟩
  clear HA4 cL
  go_wp2_with fail
  refine (cP.out _ HA5).mono ?_
  rintro e w6 ⟨a, c, rfl, hP⟩
  have HA6 := Hid.mk' hP.out.1
  have HO6 := Hid.mk' hP.out.2.1
  have HL6 := Hid.mk' hP.out.2.2
  clear HA5 cP hP
  obtain ⟨_, _, _, _, _, _, _, y7, y8, _⟩ := HA6.out.lone.cells
  have yf7 := lone_open HA6.out.lone 7
  have yf8 := lone_open HA6.out.lone 8
  go_upto_region 10 with fail
  have hK7 : Keep (fun k => k = zb) w6 ((w6.setCell ⟨zb, 7, none⟩ (nu 2)).setCell ⟨zb, 8, none⟩ (nu 9)) := ((Keep.refl (fun k => k = zb) w6).setCell (p := ⟨zb, 7, none⟩) (.inl rfl) _).setCell (p := ⟨zb, 8, none⟩) (.inl rfl) _
  have HA7 : Hid (Ar1 Rep w ((w6.setCell ⟨zb, 7, none⟩ (nu 2)).setCell ⟨zb, 8, none⟩ (nu 9)) p ⟨flS [zK, yK, xK] 3, arn0.fr, 3⟩ zb (sK true false 5 2 9)) := HA6.out.set HK.out hK7 (lone_up HA6.out.lone 2 9)
  have HO7 : Hid (((w6.setCell ⟨zb, 7, none⟩ (nu 2)).setCell ⟨zb, 8, none⟩ (nu 9)).ownsRow 0 3 1 (.slice a 3 c) 3 ([2, 1, 0].map nun)) := hK7.own (own_monoA HO6.out (Nat.zero_le _)) (fun g hg e => by have := (HO6.out.lt g hg).1; have := HL6.out; omega)
  clear hK7 HA6 HO6 HL6 y7 y8 yf7 yf8 HK
  generalize (w6.setCell ⟨zb, 7, none⟩ (nu 2)).setCell ⟨zb, 8, none⟩ (nu 9) = w7 at *
  go_wp2_with fail
  refine (cS.out _ _ _ HO7 HA7).mono ?_
  rintro e w8 ⟨rfl, HA8⟩
  clear HA7 HO7 cS
  go_wp2_with (first | (refine wpList_load_when (by rfl) _ rfl zb rfl (sK true false 5 2 9) HA8.out.lone ?_) | fail)
  refine (cU.out _ HA8).mono ?_
  rintro e w9 ⟨rfl, HA9⟩
  clear HA8 cU
  go_wp2_with fail
  refine (cM.out _ HA9).mono ?_
  rintro e w10 ⟨rfl, HA10⟩
  clear HA9 cM
  go_wp2_with fail
  refine (cW.out _ HA10).mono ?_
  rintro e w11 ⟨rfl, HA11⟩
  clear HA10 cW
  go_wp2_with fail
  refine (cQ.out _ HA11).mono ?_
  rintro e w12 ⟨a', c', rfl, HA12⟩
  clear HA11 cQ
  go_wp2
  go_ret
  exact ⟨rfl, HA12.out.bel⟩
end Wk
end Go.Proofs.Ytbkcpjgaoncioaa
