/- The law's own look at an arena: what it holds and has free, against the document's. -/
import Derived.Test.YtalpbciceogjlaaDoorArnC
import Derived.Test.YtalpbciceogjlaaDoorArnU
import Derived.Test.YtalpbciceogjlaaDoorPlace
namespace Go.Proofs.YtalpbciceogjlaaDoor
set_option linter.ambiguousOpen false
open Go.RowKit
namespace An
open Ft Lv
set_option linter.unusedSimpArgs false
set_option linter.unusedVariables false
attribute [local go_sem] Oper.semAt_some

set_option maxRecDepth 100000 in
set_option maxHeartbeats 1000000 in
theorem eql_self (x : Slt) (w : World) : (binOp .eql 36 x.v x.v).run Tryd.prog w = .ok (.bool true) w := by
  unfold Slt.v Slt.cells
  go_simp

set_option maxRecDepth 100000 in
set_option maxHeartbeats 1000000 in
theorem neq_self (x : Slt) (w : World) : (binOp .neq 36 x.v x.v).run Tryd.prog w = .ok (.bool false) w := by
  unfold Slt.v Slt.cells
  go_simp

theorem eq_func_nil (gf : Nat) (lb : Array Value) (w : World) : (binOp BinOp.eql 42 (.func (.func gf) #[] lb) .nilFunc).run Tryd.prog w = .ok (.bool false) w := by kernel_rfl

/-- A load that hangs on a test that came out so. -/
theorem wpList_load_when {ops : Array Oper} {rest : List Oper} {op : Oper} {a : Act} {w : World} {Q : Exit → Act → World → Prop} (hw : Region.wanted op (yielded ops a.tmps) = true) (x : Operand) (ho : op.op = .load 36 x)
    (b : Nat) (hx : a.eval x = .pointer (some ⟨b, 0, none⟩)) (s : Slt) (hr : Lone w b s)
    (h : wpList Tryd.prog ops Q rest (a.put op.dst (.agg s.cells.toArray)) w) : wpList Tryd.prog ops Q (op :: rest) a w := by
  refine wpList_step fun K hK => ?_
  rw [if_pos hw]
  exact wp_load_mid 36 x ho b 0 hx s.cells _ hr.range Tryd.underlying36 rfl size_slt (hK _ _ h)

theorem Lone.below {w w' : World} {b : Nat} {x : Slt} (h : Lone w b x) (hb : Below w.heap.size w w') : Lone w' b x := (hb.block b (Array.getElem?_eq_some_iff.1 h).1).trans h

theorem Lone.grown {w w' : World} {b : Nat} {x : Slt} (h : Lone w b x) {r : Nat} (hg : w.grownBy w' (some r)) (hn : r ≠ b) : Lone w' b x := (hg.block b (Array.getElem?_eq_some_iff.1 h).1 (fun e => hn (Option.some.inj e).symm)).trans h

theorem plainA (n : Nat) (h : n ≤ 24) (w : World) (hg : Er.Handle w) : Calls Tryd.prog 17 #[errE n, nu n] w fun e w' => e = .returned (.bool true) ∧ Below w.heap.size w w' := by
  cases n with
  | zero => exact Er.plain_nil 0 w
  | succ n =>
    have := Er.plain_no (n + 1) ((n + 1 : Nat) : Int) (by omega) h w hg
    rw [decide_eq_true rfl] at this
    exact this

theorem results_bool {fn : Func} {p : Tmp} (h : fn.results = #[.cell p 4]) (tmps : Array Value) (w : World) (g : Nat) (b : Bool) (hp : tmps.getD p undef = .pointer (some ⟨g, 0, none⟩)) (hg : w.cell? ⟨g, 0, none⟩ = some (.bool b)) :
    (results fn tmps).run Tryd.prog w = .ok (.bool b) w := by
  have hl : (loadVar 4 ⟨g, 0, none⟩).run Tryd.prog w = .ok (.bool b) w := by
    simp [loadVar, go_sem, hg]
  have hp' : tmps[p]?.getD undef = .pointer (some ⟨g, 0, none⟩) := by simpa using hp
  simp [results, h, hp', asAddr, hl]

/-- A row of slots' numbers reads as l. -/
def RdN (w : World) (v : Value) (l : List Nat) : Prop :=
  ∃ a cap, v = .slice a l.length cap ∧ l.length ≤ cap ∧ cap ≤ maxLen ∧ (0 < l.length → ∃ g, a = some ⟨g, 0, none⟩ ∧ g < w.heap.size ∧ ∀ k i, l[k]? = some i → w.cell? ⟨g, k, none⟩ = some (nun i))

theorem own_rdN {w : World} {base n : Nat} {v : Value} {l : List Nat} (h : w.ownsRow base 3 1 v n (l.map nun)) : RdN w v l := by
  have hn := h.1
  rw [List.length_map, Nat.mul_one] at hn
  subst hn
  rcases h.2 with ⟨rfl, h1⟩ | ⟨b, cap, cur, rfl, hb, hc, h3, h4, h5, h6⟩
  · exact ⟨none, 0, by rw [h1], by omega, by decide, fun h => by omega⟩
  · refine ⟨_, cap, rfl, h3, h4, fun _ => ⟨b, rfl, (Array.getElem?_eq_some_iff.1 hc).1, fun k i hi => ?_⟩⟩
    have hk : k < l.length := (List.getElem?_eq_some_iff.1 hi).1
    have := h.cellAt (g := b) (cap := cap) k (by omega)
    rw [this, List.getElem?_map, hi]
    rfl

theorem RdN.below {w w' : World} {v : Value} {l : List Nat} (h : RdN w v l) (hb : Below w.heap.size w w') : RdN w' v l := by
  obtain ⟨a, cap, h1, h2, h3, h4⟩ := h
  refine ⟨a, cap, h1, h2, h3, fun h0 => ?_⟩
  obtain ⟨g, e1, e2, e3⟩ := h4 h0
  exact ⟨g, e1, Nat.lt_of_lt_of_le e2 hb.size, fun k i hi => (hb.cell (p := ⟨g, k, none⟩) e2).trans (e3 k i hi)⟩

set_option maxRecDepth 100000 in
set_option maxHeartbeats 1000000 in
theorem sameN (v1 v2 : Value) (l : List Nat) (w : World) (h1 : RdN w v1 l) (h2 : RdN w v2 l) :
    Calls Tryd.prog 12 #[v1, v2] w fun e w' => e = .returned (.bool true) ∧ Below w.heap.size w w' := by
  obtain ⟨a1, cap1, rfl, hc1, hm1, hcell1⟩ := h1
  obtain ⟨a2, cap2, rfl, hc2, hm2, hcell2⟩ := h2
  unfold maxLen at hm1 hm2
  obtain ⟨n, hn⟩ : ∃ n, l.length = n := ⟨_, rfl⟩
  rw [hn] at hc1 hc2 hcell1 hcell2 ⊢
  have HN := Hid.mk' hn
  have HC1 := Hid.mk' hcell1
  have HC2 := Hid.mk' hcell2
  have hnn : ((n : Int) == (n : Int)) = true := by simp
  clear hcell1 hcell2 hn
  go_enter Tryd.func12, Tryd.ntmps12
  go_wp2
  go_loopw [5] (fun iv wr => ∃ k m : Nat, k ≤ n ∧ iv = nun k ∧ Hid (wr = w.drewN m)) (fun iv _ => n - (intOf iv).toNat)
  case atStart => exact ⟨0, 0, Nat.zero_le _, rfl, rfl⟩
  case round =>
    obtain ⟨k, m, hk, rfl, hwr⟩ := hrel
    by_cases hp : k < n
    · obtain ⟨g1, rfl, _, hx1⟩ := HC1.out (by omega)
      obtain ⟨g2, rfl, _, hx2⟩ := HC2.out (by omega)
      obtain ⟨x, hx⟩ : ∃ x, l[k]? = some x := ⟨_, List.getElem?_eq_getElem (by rw [HN.out]; exact hp)⟩
      have q1 : wr.cell? ⟨g1, k, none⟩ = some (nun x) := by rw [hwr.out]; exact hx1 k x hx
      have q2 : wr.cell? ⟨g2, k, none⟩ = some (nun x) := by rw [hwr.out]; exact hx2 k x hx
      have hxx : ((x : Int) == (x : Int)) = true := by simp
      have hkI : (k : Int) < (n : Int) := by omega
      clear hx1 hx2 HC1 HC2 hx
      go_wp2
      go_quiet (fail)
      go_wp2
      go_roundw
      case rel => exact ⟨k + 1, _, by omega, by go_num, by rw [hwr.out, World.drewN_drewN]; exact rfl⟩
      case measure => simp [intOf]; omega
    · obtain rfl : k = n := by omega
      have hkI : ¬ (k : Int) < (k : Int) := by omega
      go_wp2
      go_ret
      exact ⟨rfl, by rw [hwr.out]; exact ⟨rfl, rfl, rfl, Nat.le_refl _, fun _ _ => rfl⟩⟩

set_option maxRecDepth 1000000 in
set_option maxHeartbeats 8000000 in
theorem asked_any {Rep : World → Nat → (Nat → Prop) → Arn → Prop} (H : KeepC Rep) (CG : GetC Rep) (CF : FreesC Rep) (CW : WritesC Rep) (base : Nat) (w : World) (p g : Nat) (F G : Nat → Prop) (A : Arn) (h : Rep w p F A) (hr : RepA base w g G A) (hg : Good A) (hwr : A.wr ≤ 1000000000) (hE : Er.Handle w) :
    Calls Tryd.prog 9 #[ptr p, ptr g] w fun e w' => e = .returned (.bool true) ∧ Below w.heap.size w w' := by
  obtain ⟨i0, ji, hz0, hz1, hz2⟩ := info_parts info_int
  obtain ⟨sv, fv, hRA, _, _⟩ := hr
  have HRA := Hid.mk' hRA
  have HGd := Hid.mk' hg
  have HE := Hid.mk' hE
  have hfew := hg.few
  have hB1 : Below w.heap.size w ((w.alloc (.cells #[ptr g] 25)).alloc (.cells #[.bool false] 4)) := ((Below.refl _ _).alloc (Nat.le_refl _) _).alloc (by simp) _
  have x0 : Boxed ((w.alloc (.cells #[ptr g] 25)).alloc (.cells #[.bool false] 4)) w.heap.size 25 (ptr g) := (Boxed.new w _ _).alloc _
  have x1 : Boxed ((w.alloc (.cells #[ptr g] 25)).alloc (.cells #[.bool false] 4)) (w.heap.size + 1) 4 (.bool false) := by
    have := Boxed.new (w.alloc (.cells #[ptr g] 25)) 4 (.bool false)
    simpa using this
  have hs1 : ((w.alloc (.cells #[ptr g] 25)).alloc (.cells #[.bool false] 4)).heap.size = w.heap.size + 2 := by simp
  obtain ⟨W1, hW1⟩ : ∃ W1, (w.alloc (.cells #[ptr g] 25)).alloc (.cells #[.bool false] 4) = W1 := ⟨_, rfl⟩
  rw [hW1] at hB1 x0 x1 hs1
  have HW1 := Hid.mk' hW1
  have hRep : Hid (∀ W, Below W1.heap.size W1 W → Rep W p F A ∧ RAn base W g sv fv A ∧ Er.Handle W) := fun W hb => by
    have hb' : Below w.heap.size w W := hB1.trans (hb.mono hB1.size)
    exact ⟨H.below h hb', hRA.below hb', hE.below hb'⟩
  have hgl : g < W1.heap.size := Nat.lt_of_lt_of_le hRA.glt hB1.size
  have hC0 : Hid (∀ W, Below W1.heap.size W1 W → W.cell? ⟨w.heap.size, 0, none⟩ = some (ptr g) ∧ W.cell? ⟨g, 2, none⟩ = some (nun A.wr) ∧ W.cell? ⟨g, 1, none⟩ = some fv) := fun W hb => by
    obtain ⟨_, z1, z2, _⟩ := (hRep.out W hb).2.1.cells
    exact ⟨(hb.cell (p := ⟨w.heap.size, 0, none⟩) (by show w.heap.size < W1.heap.size; omega)).trans x0.cell, z2, z1⟩
  have cW : Hid (∀ wx, Below W1.heap.size W1 wx → Calls Tryd.prog 26 #[ptr p] wx fun e w' => e = .returned (nun A.wr) ∧ (w'.cell? ⟨w.heap.size, 0, none⟩ = some (ptr g) ∧ w'.cell? ⟨g, 2, none⟩ = some (nun A.wr)) ∧ Below W1.heap.size W1 w') := fun wx hb => by
    refine (CW wx p F A (hRep.out wx hb).1 hwr).mono ?_
    rintro e w' ⟨rfl, hb'⟩
    have hb2 := hb.trans (hb'.mono hb.size)
    exact ⟨rfl, ⟨(hC0.out w' hb2).1, (hC0.out w' hb2).2.1⟩, hb2⟩
  have cR : Hid (∀ wx i, Below W1.heap.size W1 wx → Calls Tryd.prog 15 #[ptr g, nu i] wx fun e w' => e = .returned (.tuple #[(A.at i).v, nu (Arn.atE i : Int)]) ∧ Below wx.heap.size wx w') := fun wx i hb => get_ref base wx g sv fv A i (hRep.out wx hb).2.1 hg
  have cP : Hid (∀ wx i, Below W1.heap.size W1 wx → -9223372036854775808 ≤ i ∧ i ≤ 9223372036854775807 → Calls Tryd.prog 16 #[ptr p, nu i] wx fun e w' => e = .returned (.tuple #[(A.at i).v, errE (Arn.atE i)]) ∧ Below wx.heap.size wx w') := fun wx i hb hi => CG wx p F A i (hRep.out wx hb).1 hg hi
  have cQ : Hid (∀ wx i, Below W1.heap.size W1 wx → Calls Tryd.prog 17 #[errE (Arn.atE i), nu (Arn.atE i : Int)] wx fun e w' => e = .returned (.bool true) ∧ Below wx.heap.size wx w') := fun wx i hb => plainA _ (atE_le i) wx (hRep.out wx hb).2.2
  have cF : Hid (∀ wx, Below W1.heap.size W1 wx → Calls Tryd.prog 10 #[ptr p] wx fun e w' => ∃ fv X, e = .returned fv ∧ IterA w' fv X A.fr ∧ (∀ b, X b → wx.heap.size ≤ b) ∧ Below wx.heap.size wx w') := fun wx hb => CF wx p F A (hRep.out wx hb).1 hg
  have hww : ((A.wr : Int) == (A.wr : Int)) = true := by simp
  have hS1 := hC0.out W1 (Below.refl _ _)
  have hB1H := Hid.mk' hB1
  clear h hRA hg hE H CG CF CW hW1 hB1
  refine (callsIn_wide (n := 8)).1 ?_
  refine callsIn_of_wp_marks Tryd.func9 rfl trivial ?_ rfl
  refine wpIn_wide.2 ?_
  simp only [Tryd.ntmps9, List.size_toArray, List.length_cons, List.length_nil, Nat.reduceAdd, Nat.reduceSub, Array.replicate_succ, Array.replicate_zero, List.push_toArray, List.append_toArray, List.nil_append, List.cons_append]
  go_wp2_with fail
  rw [HW1.out]
  go_region_held3 (fun w' => w'.cell? ⟨w.heap.size, 0, none⟩ = some (ptr g) ∧ w'.cell? ⟨g, 2, none⟩ = some (nun A.wr)) (first | assumption | exact ⟨hS1.1, hS1.2.1⟩ | go_keep) (first | (go_at_call 26; with_reducible refine (cW.out _ ?hb).mono ?_; (case hb => (first | exact Below.refl _ _ | exact (Below.refl _ _).drew | fail)); rintro e w2 ⟨rfl, hS2, hb2⟩) | fail)
  have hB2 : Hid (Below W1.heap.size W1 w2) := hb2
  clear hS1 hS2 hb2 cW
  go_wp2_with fail
  go_loopw [5, 6, 7, 8, 9] (fun iv _ _ _ _ wr => ∃ k : Nat, k ≤ 34 ∧ iv = nu ((k : Int) - 1) ∧ Hid (Below W1.heap.size W1 wr)) (fun iv _ _ _ _ _ => (33 - intOf iv).toNat)
  case atStart => exact ⟨0, by omega, rfl, hB2⟩
  case round =>
    obtain ⟨k, hk, rfl, hB⟩ := hrel
    obtain ⟨i, hi⟩ : ∃ i : Int, (k : Int) - 1 = i := ⟨_, rfl⟩
    rw [hi]
    by_cases hlt : k < 34
    · have hiI : i ≤ 32 := by omega
      have hiL : -1 ≤ i := by omega
      obtain ⟨x, hx⟩ : ∃ x, A.at i = x := ⟨_, rfl⟩
      have q0 := (hC0.out wr hB.out).1
      have C1 := Hid.mk' (cR.out wr i hB.out)
      have C2 : Hid (∀ wx, Below W1.heap.size W1 wx → _) := fun wx hb => cP.out wx i hb (by omega)
      have C3 : Hid (∀ wx, Below W1.heap.size W1 wx → _) := fun wx hb => cQ.out wx i hb
      rw [hx] at C1 C2
      have hnq := neq_self x
      have HI := Hid.mk' hi
      generalize Arn.atE i = n at *
      clear hi
      go_wp2_with fail
      refine C1.out.mono ?_
      rintro e w3 ⟨rfl, hb3⟩
      have HB3 : Hid (Below W1.heap.size W1 w3) := hB.out.trans (hb3.mono hB.out.size)
      have HZ3 := Hid.mk' (lone_zero w3)
      clear hb3 C1
      go_wp2_with (first | (refine wpList_store_lone rfl _ _ rfl w3.heap.size rfl x rfl slt0 HZ3.out ?_; intro w4 hl4 hg4 hs4; have HL4 := Hid.mk' hl4; have HB4 : Hid (Below W1.heap.size W1 w4) := ((HB3.out.alloc HB3.out.size _).grown hg4 (HB3.out.alloc HB3.out.size _).size (fun r e => by cases e; exact HB3.out.size)); have hs4' : w4.heap.size = w3.heap.size + 1 := (by rw [hs4]; simp); clear hl4 hg4 hs4) | fail)
      clear q0
      refine (C2.out _ HB4.out).mono ?_
      rintro e w5 ⟨rfl, hb5⟩
      have HB5 : Hid (Below W1.heap.size W1 w5) := HB4.out.trans (hb5.mono HB4.out.size)
      have HL5 := Hid.mk' (HL4.out.below hb5)
      have hs5 : w3.heap.size < w5.heap.size := by have := hb5.size; omega
      have HZ5 := Hid.mk' (lone_zero w5)
      clear hb5 C2 HL4 HB4
      go_wp2_with (first | (refine wpList_store_lone rfl _ _ rfl w5.heap.size rfl x rfl slt0 HZ5.out ?_; intro w6 hl6 hg6 hs6; have HL6 := Hid.mk' hl6; have HB6 : Hid (Below W1.heap.size W1 w6) := ((HB5.out.alloc HB5.out.size _).grown hg6 (HB5.out.alloc HB5.out.size _).size (fun r e => by cases e; exact HB5.out.size)); have HM6 : Hid (Lone w6 w3.heap.size x) := Lone.grown (Lone.below HL5.out ((Below.refl _ _).alloc (Nat.le_refl _) _)) hg6 (by omega); clear hl6 hg6 hs6) | fail)
      refine (C3.out _ HB6.out).mono ?_
      rintro e w7 ⟨rfl, hb7⟩
      have HB7 : Hid (Below W1.heap.size W1 w7) := HB6.out.trans (hb7.mono HB6.out.size)
      have HL7 := Hid.mk' (HL6.out.below hb7)
      have HM7 := Hid.mk' (HM6.out.below hb7)
      clear hb7 C3 HL6 HM6 HB6 HB5 HL5 HB3 HZ3 HZ5
      go_wp2_with (first | (refine wpList_load_when (by rfl) _ rfl w5.heap.size rfl x HL7.out ?_) | (refine wpList_load_when (by rfl) _ rfl w3.heap.size rfl x HM7.out ?_) | fail)
      go_roundw
      case rel => exact ⟨k + 1, by omega, by rw [← HI.out]; go_num, HB7⟩
      case measure => simp [intOf]; omega
    · obtain rfl : k = 34 := by omega
      obtain rfl : i = 33 := by omega
      clear hi
      go_wp2_with fail
      refine (cF.out wr hB.out).mono ?_
      rintro e w8 ⟨fv2, X, rfl, ⟨gf, lb, kk, rfl, hent, hXl, hsq⟩, hXn, hb8⟩
      have hB8 : Below W1.heap.size W1 w8 := hB.out.trans (hb8.mono hB.out.size)
      have hs8 := hB8.size
      have hnil := eq_func_nil gf lb
      have hXn1 : ∀ b, X b → w.heap.size + 2 ≤ b := fun b hb => by
        have h1 := hXn b hb
        have h2 := hB.out.size
        omega
      have HSQ := Hid.mk' hsq
      clear hb8 hsq cF cQ cP cR
      go_wp2_with fail
      refine wp_loop (fun a wr => ∃ (q : Nat) (Ds : List Nat) (v11 v12 v13 v51 v52 v53 v54 v55 v56 v57 v58 v59 v60 v61 v62 v63 v64 v65 v66 v67 : Value), q ≤ 2 ∧ v11 = nun q ∧ Rf.Open w8.heap.size Ds wr ∧ Below w8.heap.size w8 wr ∧ a = { tmps := #[ptr p, ptr g, undef, .pointer (some ⟨w.heap.size, 0, none⟩), .pointer (some ⟨w.heap.size + 1, 0, none⟩), nu 33, u6, u7, u8, u9, .func (.func gf) #[] lb, v11, v12, v13, undef, ptr p, nun A.wr, ptr g, .pointer (some ⟨g, 0, none⟩), .pointer (some ⟨g, 2, none⟩), nun A.wr, .bool false, nu 33, .bool false, u24, u25, u26, u27, u28, u29, u30, u31, u32, u33, u34, u35, u36, u37, u38, u39, u40, u41, u42, u43, u44, u45, u46, ptr p, .func (.func gf) #[] lb, .func (.func gf) #[] lb, .bool false, v51, v52, v53, v54, v55, v56, v57, v58, v59, v60, v61, v62, v63, v64, v65, v66, v67, undef, undef, undef, undef, undef, undef, undef, undef, undef, undef, undef, undef, undef, undef, undef, undef, undef, undef, undef, undef, undef, undef, undef, undef], defers := Rf.marks Ds })
        (fun a _ => 2 - (intOf (a.tmps.getD 11 undef)).toNat) ⟨0, [], _, _, _, _, _, _, _, _, _, _, _, _, _, _, _, _, _, _, _, _, by omega, rfl, ⟨List.nodup_nil, fun D hD => by simp at hD⟩, Below.refl _ _, rfl⟩ ?_
      clear hB
      rintro a wr ⟨q, Ds, v11, v12, v13, v51, v52, v53, v54, v55, v56, v57, v58, v59, v60, v61, v62, v63, v64, v65, v66, v67, hq, rfl, hOp, hB, rfl⟩
      have sr := hB.size
      have hB1r : Below W1.heap.size W1 wr := hB8.trans (hB.mono hs8)
      by_cases hp : q < 2
      · have hqd : decide ((q : Int) < 2) = true := by simp; omega
        go_wp2_with fail
        clear hqd
        have s6 : (wr.alloc (.cells #[.slice none 0 0] 44)).heap.size = wr.heap.size + 1 := by simp
        have b1 : Boxed (wr.alloc (.cells #[.slice none 0 0] 44)) wr.heap.size 44 (.slice none 0 0) := Boxed.new wr _ _
        have q6 : Below wr.heap.size wr (wr.alloc (.cells #[.slice none 0 0] 44)) := (Below.refl _ wr).alloc (Nat.le_refl _) _
        generalize wr.alloc (.cells #[.slice none 0 0] 44) = W6 at *
        have q56 : Below w8.heap.size w8 W6 := hB.trans (q6.mono sr)
        refine Rf.wp_range (L := A.fr) (w0 := W6) rfl hent (HSQ.out W6 q56.size (fun b hb => q56.block b (hXl b hb))) (Below.refl _ _) (fun _ => rfl) (fun b hb => Nat.lt_of_lt_of_le (hXl b hb) q56.size)
          (fun pre W' => ∃ v, Boxed W' wr.heap.size 44 v ∧ W'.ownsRow (W6.heap.size + 2 + kk) 3 1 v pre.length (pre.map nun) ∧ Rf.But wr.heap.size W6 W')
          (fun _ _ _ => False) ?rest (fun _ _ _ _ _ hs _ _ => hs)
          ⟨_, b1, World.ownsRow_nil _ _ _ _, Rf.But.refl _ _⟩ ?act ?assign ?body ?done (fun _ _ _ _ h _ => h.elim)
        case assign =>
          intro l' x W2 K hK
          gi_wp2
          exact hK
        case rest =>
          rintro pre A B row ⟨v, h2, h4, h5⟩ hg hr
          exact ⟨v, h2.kept hg (fun e => by have := (hr _ e.symm).1; omega), hr.row h4 (Nat.le_refl _) hg, h5.rest (by omega) hg hr⟩
        case body =>
          rintro l' pre x W2 hpre hsz ⟨v, h2, h4, h5⟩
          have hc2 := h2.cell
          have hl64 : pre.length < 33 := by
            have := hpre.length_le
            simp at this; omega
          have HS : Hid ((pre ++ [x]).map nun = pre.map nun ++ [nun x]) := by show _ = _; simp
          have HLn : Hid ((pre ++ [x]).length = pre.length + 1) := by show _ = _; simp
          obtain ⟨m, hm⟩ : ∃ m, pre.length = m := ⟨_, rfl⟩
          rw [hm] at h4 hl64 HLn
          gi_wp2_with (gi_at_builtin; refine wpListIn_append_own _ rfl _ _ 44 rfl (W6.heap.size + 2 + kk) 3 i0 (.int .i64 0) 1 8 Tryd.underlying44 ji hz0 hz1 hz2 rfl (by decide) _ _ _ rfl (h4.alloc _) ⟨W2.heap.size, 0, none⟩ 1 1 [nun x] rfl rfl (cell_one_new _ _ _) (by simp [Value.oneCell']) (by unfold maxLen; omega) (by omega) (by simp; omega) ?_; intro v' w1 hown' hgrow _; obtain ⟨g', cap', rfl⟩ := ownsRow_succ hown'; obtain ⟨hv1, hv2, hr2, hk2, hb2, ho2⟩ := Rf.collected (X := X) (lo := W6.heap.size) (n := wr.heap.size) h2 (by decide) h4 (by omega) (fun h => by have := hXl _ h; omega) (fun b hb => by have := hXl b hb; omega) (by omega) hsz (Nat.le_refl _) hown' hgrow; have hbt := Rf.But.step (v' := .slice (some ⟨g', 0, none⟩) (m + 1) cap') h5 h4 (by omega) hsz (by omega) hgrow; have hc1 := hv1.cell; have hf1 := hv1.frozen)
          exact ⟨hk2, _, hv2, by rw [HS.out, HLn.out]; exact hr2, hbt⟩
        case done =>
          rintro W7 ⟨v1, h2, h4, h5⟩ hK7
          have q57 : Below w8.heap.size w8 W7 := q56.trans (h5.1.mono sr)
          have hB17 : Below W1.heap.size W1 W7 := hB8.trans (q57.mono hs8)
          have hO7 : Rf.Open w8.heap.size (W6.heap.size :: Ds) W7 := (h5.open (hOp.below q6 (Nat.le_refl _)) (fun h => by have := hOp.lt _ h; omega)).cons (by omega) hK7 (fun h => by have := hOp.lt _ h; omega)
          have hc1 := h2.cell
          have r1 : RdN W7 v1 A.fr := own_rdN h4
          have r2 : RdN W7 fv A.fr := own_rdN (hRep.out W7 hB17).2.1.fr
          obtain ⟨z0, _, z1⟩ := hC0.out W7 hB17
          have hl7 := (Array.getElem?_eq_some_iff.1 h2).1
          have CS : Hid (∀ wx, Below W7.heap.size W7 wx → Calls Tryd.prog 12 #[v1, fv] wx fun e w' => e = .returned (.bool true) ∧ (w'.cell? ⟨wr.heap.size, 0, none⟩ = some v1 ∧ w'.cell? ⟨w.heap.size, 0, none⟩ = some (ptr g) ∧ w'.cell? ⟨g, 1, none⟩ = some fv) ∧ Below W7.heap.size W7 w') := fun wx hx => by
            refine (sameN v1 fv A.fr wx (r1.below hx) (r2.below hx)).mono ?_
            rintro e w' ⟨rfl, hb'⟩
            have hb2 : Below W7.heap.size W7 w' := hx.trans (hb'.mono hx.size)
            obtain ⟨y0, _, y1⟩ := hC0.out w' (hB17.trans (hb2.mono hB17.size))
            exact ⟨rfl, ⟨(hb2.cell (p := ⟨wr.heap.size, 0, none⟩) hl7).trans hc1, y0, y1⟩, hb2⟩
          obtain ⟨a1, c1, hv1, _⟩ := r1
          obtain ⟨a2, c2, hv2, _⟩ := r2
          obtain ⟨nf, hnf⟩ : ∃ nf, A.fr.length = nf := ⟨_, rfl⟩
          rw [hnf] at hv1 hv2
          subst hv1 hv2
          have hS7 : W7.cell? ⟨wr.heap.size, 0, none⟩ = some (.slice a1 nf c1) ∧ W7.cell? ⟨w.heap.size, 0, none⟩ = some (ptr g) ∧ W7.cell? ⟨g, 1, none⟩ = some (.slice a2 nf c2) := ⟨hc1, z0, z1⟩
          have hO7H := Hid.mk' hO7
          have q57H := Hid.mk' q57
          clear h4 h2 hc1 h5 hK7 hO7 q57 b1 hOp z0 z1 hnf hl7 q56 q6
          go_wp2_with fail
          go_region_held3 (fun w' => w'.cell? ⟨wr.heap.size, 0, none⟩ = some (.slice a1 nf c1) ∧ w'.cell? ⟨w.heap.size, 0, none⟩ = some (ptr g) ∧ w'.cell? ⟨g, 1, none⟩ = some (.slice a2 nf c2)) (first | assumption | exact hS7 | go_keep) (first | (go_at_call 12; with_reducible refine (CS.out _ ?hb).mono ?_; (case hb => (first | exact Below.refl _ _ | exact (Below.refl _ _).drew | fail)); rintro e w9 ⟨rfl, hS9, hb9⟩) | fail)
          have hO9 : Hid (Rf.Open w8.heap.size ((wr.heap.size + 1) :: Ds) w9) := by
            have := hO7H.out.below hb9 (Nat.le_refl _)
            rw [s6] at this
            exact this
          have hB9 := Hid.mk' (q57H.out.trans (hb9.mono q57H.out.size))
          clear hS7 hS9 hb9 CS
          go_wp2
          refine ⟨⟨q + 1, (wr.heap.size + 1) :: Ds, _, _, _, _, _, _, _, _, _, _, _, _, _, _, _, _, _, _, _, _, by omega, ?num, hO9.out, hB9.out, rfl⟩, ?meas⟩
          case num => go_num
          case meas => simp [intOf]; omega
      · obtain rfl : q = 2 := by omega
        have hqd : decide (((2 : Nat) : Int) < 2) = false := by decide
        have y1 : Boxed wr (w.heap.size + 1) 4 (.bool false) := (hB1r.block _ (by omega)).trans x1
        go_wp2_with fail
        refine Rf.wp_range (L := A.fr) (w0 := wr) rfl hent (HSQ.out wr sr (fun b hb => hB.block b (hXl b hb))) (Below.refl _ _) (fun _ => rfl) (fun b hb => Nat.lt_of_lt_of_le (hXl b hb) sr)
          (fun pre W' => pre = [] ∧ Boxed W' (w.heap.size + 1) 4 (.bool false) ∧ Rf.But (w.heap.size + 1) wr W')
          (fun c pre W' => c = .ret ∧ Boxed W' (w.heap.size + 1) 4 (.bool true) ∧ Rf.But (w.heap.size + 1) wr W') ?rest3 ?restx3
          ⟨rfl, y1, Rf.But.refl _ _⟩ ?act3 ?assign3 ?body3 ?done3 ?stop3
        case assign3 =>
          intro l' x W2 K hK
          gi_wp2
          exact hK
        case rest3 =>
          rintro pre A B row ⟨v, h2, h5⟩ hg hr
          exact ⟨v, h2.kept hg (fun e => by have := (hr _ e.symm).1; omega), h5.rest (by omega) hg hr⟩
        case restx3 =>
          rintro c pre A B row ⟨v, h2, h5⟩ hg hr
          exact ⟨v, h2.kept hg (fun e => by have := (hr _ e.symm).1; omega), h5.rest (by omega) hg hr⟩
        case body3 =>
          rintro l' pre x W2 hpre hsz ⟨rfl, h2, h5⟩
          have hBw2 : Below w.heap.size w W2 := (hB1H.out.trans (hB1r.mono hB1H.out.size)).trans (h5.1.mono (Nat.le_succ _))
          have hR2 := HRA.out.below hBw2
          have z1 := hR2.cells.2.1
          have z0 : W2.cell? ⟨w.heap.size, 0, none⟩ = some (ptr g) := (h5.1.cell (p := ⟨w.heap.size, 0, none⟩) (Nat.lt_succ_self _)).trans (hC0.out wr hB1r).1
          obtain ⟨rest, hrest⟩ := hpre
          have hx0 : A.fr[0]? = some x := by rw [← hrest]; rfl
          have hln : 0 < A.fr.length := by rw [← hrest]; simp
          obtain ⟨af, cf, hfv, hf1, hf2, hf3⟩ := own_rdN hR2.fr
          obtain ⟨bf, rfl, _, hf4⟩ := hf3 hln
          have z2 := hf4 0 x hx0
          obtain ⟨nf, hnf⟩ : ∃ nf, A.fr.length = nf := ⟨_, rfl⟩
          rw [hnf] at hfv hln
          subst hfv
          have hlI : (0 : Int) < (nf : Int) := by omega
          have hxx : ((x : Int) == (x : Int)) = true := by simp
          have hc2 := h2.cell
          have hf2' := h2.frozen
          have HL : Hid (Rf.Leaves X wr.heap.size (wr.heap.size + 2 + kk) W2 (W2.setCell ⟨w.heap.size + 1, 0, none⟩ (.bool true))) := Rf.Leaves.grown (grownBy_setCell' W2 (w.heap.size + 1) (.bool true)) (fun r e => by
            cases e
            exact ⟨fun h => by have := hXn1 _ h; omega, .inl (by omega)⟩)
          have HBX : Hid (Boxed (W2.setCell ⟨w.heap.size + 1, 0, none⟩ (.bool true)) (w.heap.size + 1) 4 (.bool true)) := h2.set _
          have HBT : Hid (Rf.But (w.heap.size + 1) wr (W2.setCell ⟨w.heap.size + 1, 0, none⟩ (.bool true))) := ⟨h5.1.setCell (p := ⟨w.heap.size + 1, 0, none⟩) (Nat.le_refl _) _, fun b hb hne => (Below.heap_setCell _ _ _ b hne).trans (h5.2 b hb hne)⟩
          clear hf4 hf1 hf2 hR2 hBw2 h2 h5 hnf
          gi_wp2
          exact ⟨HL.out, rfl, HBX.out, HBT.out⟩
        case done3 =>
          rintro W7 ⟨h0, h2, h5⟩ hK7
          have hBw7 : Below w.heap.size w W7 := (hB1H.out.trans (hB1r.mono hB1H.out.size)).trans (h5.1.mono (Nat.le_succ _))
          have hR7 := HRA.out.below hBw7
          have z1 := hR7.cells.2.1
          have z0 : W7.cell? ⟨w.heap.size, 0, none⟩ = some (ptr g) := (h5.1.cell (p := ⟨w.heap.size, 0, none⟩) (Nat.lt_succ_self _)).trans (hC0.out wr hB1r).1
          have h7f := hR7.fr
          rw [h0] at h7f
          obtain ⟨af, cf, hfv, _⟩ := Nm.own_shape h7f
          have hO7 : Rf.Open w8.heap.size (wr.heap.size :: Ds) W7 := (h5.open hOp (fun h => by have := (hOp.2 _ h).1; omega)).cons sr hK7 (fun h => by have := hOp.lt _ h; omega)
          have HO : Hid (Rf.Open w8.heap.size (wr.heap.size :: Ds) (W7.setCell ⟨w.heap.size + 1, 0, none⟩ (.bool true))) := hO7.kept (fun D hD => Below.heap_setCell _ _ _ D (fun e => by have := (hO7.2 D hD).1; have e' : D = w.heap.size + 1 := e; omega))
          have HBX : Hid (Boxed (W7.setCell ⟨w.heap.size + 1, 0, none⟩ (.bool true)) (w.heap.size + 1) 4 (.bool true)) := h2.set _
          have HBW : Hid (Below w.heap.size w (W7.setCell ⟨w.heap.size + 1, 0, none⟩ (.bool true))) := hBw7.setCell (p := ⟨w.heap.size + 1, 0, none⟩) (by show w.heap.size ≤ w.heap.size + 1; omega) _
          have hsz7 : Hid (w8.heap.size ≤ (W7.setCell ⟨w.heap.size + 1, 0, none⟩ (.bool true)).heap.size) := by
            show _ ≤ _
            have := h5.1.size
            simp
            omega
          subst hfv
          have hc2 := h2.cell
          have hf2' := h2.frozen
          clear h2 h5 hK7 hO7 hR7 h7f hBw7 hOp
          go_wp2
          exact Rf.leaves_marks (B := w8.heap.size) (Ds := wr.heap.size :: Ds) HO.out hsz7.out (fun W' hW' => ⟨_, results_bool rfl _ _ (w.heap.size + 1) true rfl ((hW'.cell (p := ⟨w.heap.size + 1, 0, none⟩) (by show w.heap.size + 1 < w8.heap.size; omega)).trans HBX.out.cell), rfl, HBW.out.trans (hW'.mono (by omega))⟩)
        case stop3 =>
          rintro c pre W7 hpre ⟨rfl, h2, h5⟩ hK7
          have hBw7 : Below w.heap.size w W7 := (hB1H.out.trans (hB1r.mono hB1H.out.size)).trans (h5.1.mono (Nat.le_succ _))
          have hO7 : Rf.Open w8.heap.size (wr.heap.size :: Ds) W7 := (h5.open hOp (fun h => by have := (hOp.2 _ h).1; omega)).cons sr hK7 (fun h => by have := hOp.lt _ h; omega)
          have hsz7 : w8.heap.size ≤ W7.heap.size := Nat.le_trans sr h5.1.size
          go_wp2
          exact Rf.leaves_marks (B := w8.heap.size) (Ds := wr.heap.size :: Ds) hO7 hsz7 (fun W' hW' => ⟨_, results_bool rfl _ _ (w.heap.size + 1) true rfl ((hW'.cell (p := ⟨w.heap.size + 1, 0, none⟩) (by show w.heap.size + 1 < w8.heap.size; omega)).trans h2.cell), rfl, hBw7.trans (hW'.mono (by omega))⟩)
end An
end Go.Proofs.YtalpbciceogjlaaDoor
