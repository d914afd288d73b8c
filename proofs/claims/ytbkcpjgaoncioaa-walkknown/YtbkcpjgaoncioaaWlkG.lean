/- The law's line of slots. -/
import Derived.Test.YtbkcpjgaoncioaaWlkS
import Derived.Test.YtbkcpjgaoncioaaWlkQ
import Derived.Test.YtbkcpjgaoncioaaArnA
namespace Go.Proofs.Ytbkcpjgaoncioaa
set_option linter.ambiguousOpen false
open Go.RowKit
namespace Wk
open An Ft Lv
set_option linter.unusedSimpArgs false
set_option linter.unusedVariables false

theorem size_ses : (Try.prog.info? 50).map (·.size) = some 12 := by kernel_rfl

@[reducible] def sesZ : Array Value := #[.int .i64 0, .int .i64 0, .int .i64 0, .int .i64 0, .int .i64 0, .string ⟨#[]⟩, .string ⟨#[]⟩, .int .u64 0, .int .i64 0, .int .i64 0, .int .i64 0, .int .i64 0]

/-- A session lies alone in a block. -/
def LoS (w : World) (b : Nat) (s : Ses) : Prop := w.heap[b]? = some (.cells s.cells.toArray 50)

theorem los_zero (w : World) : LoS (w.alloc (.cells sesZ 50)) w.heap.size ses0 := heap_alloc_new _ _

theorem LoS.range {w : World} {b : Nat} {s : Ses} (h : LoS w b s) : w.rangeAt b 0 s.cells := fun j v hv => by
  rw [Nat.zero_add, cell_of_row w b j _ _ _ h]
  simpa using hv

theorem LoS.open {w : World} {b : Nat} {s : Ses} (h : LoS w b s) (o : Nat) : w.frozen? ⟨b, o, none⟩ = false := by
  unfold LoS at h
  simp [World.frozen?, h]

theorem LoS.ups {w : World} {b : Nat} {s : Ses} (h : LoS w b s) : w.cell? ⟨b, 2, none⟩ = some (nu s.us) ∧ w.cell? ⟨b, 3, none⟩ = some (nu s.ub) := ⟨h.range 2 _ rfl, h.range 3 _ rfl⟩

theorem LoS.set {w : World} {b : Nat} {s : Ses} (h : LoS w b s) (us ub : Int) : LoS ((w.setCell ⟨b, 2, none⟩ (nu us)).setCell ⟨b, 3, none⟩ (nu ub)) b { s with us := us, ub := ub } := by
  have h1 : (w.setCell ⟨b, 2, none⟩ (nu us)).heap[b]? = some (.cells (s.cells.toArray.setIfInBounds 2 (nu us)) 50) := by
    unfold LoS at h
    rw [heap_setCell_same _ b 2 _ _ _ h]
  unfold LoS
  rw [heap_setCell_same _ b 3 _ _ _ h1]
  rfl

theorem ses_one (s : Ses) : s.cells.toArray.all (·.oneCell') = true := all_oneCell_toArray (by
  intro u hu
  simp [Ses.cells] at hu
  rcases hu with rfl | rfl | rfl | rfl | rfl | rfl | rfl | rfl | rfl | rfl | rfl | rfl <;> rfl)

set_option maxRecDepth 100000 in
theorem wpList_store_los {ops : Array Oper} {rest : List Oper} {op : Oper} {a : Act} {w : World} {Q : Exit → Act → World → Prop} (hgd : op.guard = none) (x y : Operand) (ho : op.op = .store 50 x y)
    (b : Nat) (hx : a.eval x = .pointer (some ⟨b, 0, none⟩)) (s : Ses) (hy : a.eval y = .agg s.cells.toArray) (z : Ses) (hz : LoS w b z)
    (h : ∀ w', LoS w' b s → w.grownBy w' (some b) → w'.heap.size = w.heap.size → wpList Try.prog ops Q rest (a.put op.dst undef) w') : wpList Try.prog ops Q (op :: rest) a w := by
  refine wpList_plain hgd fun K hK => ?_
  have hrun := run_storeVar_row (P := Try.prog) w b _ 50 z.cells.toArray s.cells.toArray hz size_ses rfl (ses_one s)
  have hk := hK _ _ (h (w.setRow b s.cells.toArray) (setRow_heap w b _ _ _ _ hz) ⟨rfl, rfl, rfl, by simp, fun k hk hn => setRow_other _ _ _ _ (fun e => hn (by rw [e]))⟩ (by simp))
  unfold Oper.wp execOp
  simp only [ho, hx, hy, Instr.storeAt, Instr.sureAddr, Sem.run_bind, Sem.run_pure, Result.andThen_ok, hrun]
  exact hk

/-- The session at the place k of a line. -/
def sesL (x k : Nat) (us ub : Int) : Ses := ⟨x, 10 + (k : Int), us, ub, 0, ⟨#[]⟩, ⟨#[]⟩, 0, 0, 0, 0, k⟩

def slotL (x k : Nat) (us ub : Int) : Slt := ⟨true, false, 0, 0, 0, sesL x k us ub, slt0.tx⟩

def upS (L : List Nat) (k : Nat) : Int := if k = 0 then 0 else L.getD (k - 1) 0

def upB (k : Nat) : Int := if k = 0 then 0 else 9 + (k : Int)

def lnS (L : List Nat) : Nat → List Slt
  | 0 => arn0.sl
  | k + 1 => (lnS L k).set (L.getD k 0) (slotL (L.getD k 0) k (upS L k) (upB k))

theorem lnS_len (L : List Nat) : ∀ k, (lnS L k).length = 32
  | 0 => rfl
  | k + 1 => by rw [lnS, List.length_set]; exact lnS_len L k

set_option maxRecDepth 100000 in
set_option maxHeartbeats 4000000 in
theorem line_any {Rep : World → Nat → (Nat → Prop) → Arn → Prop} (H : KeepC Rep) (CN : NewC Rep) (CP : PutC Rep) (v : Value) (L : List Nat) (w : World) (hR : RdN w v L) (hlt : ∀ x ∈ L, x < 32) (hln : L.length ≤ 7) :
    Calls Try.prog 16 #[v] w fun e w' => ∃ p F, e = .returned (ptr p) ∧ Rep w' p F ⟨lnS L L.length, arn0.fr, L.length⟩ ∧ (∀ j, F j → w.heap.size ≤ j) ∧ Below w.heap.size w w' := by
  obtain ⟨av, cv, rfl, hc1, hc2, hcell⟩ := hR
  obtain ⟨N, hN⟩ : ∃ N, L.length = N := ⟨_, rfl⟩
  rw [hN] at hc1 hcell hln ⊢
  unfold maxLen at hc2
  have hcI : (cv : Int) ≤ 9223372036854775807 := by omega
  have HCL : Hid (∀ n wx, n < N → Below w.heap.size w wx → ∃ g, av = some ⟨g, 0, none⟩ ∧ wx.cell? ⟨g, n, none⟩ = some (nun (L.getD n 0))) := fun n wx hn hb => by
    obtain ⟨g, e1, e2, e3⟩ := hcell (by omega)
    refine ⟨g, e1, (hb.cell (p := ⟨g, n, none⟩) e2).trans (e3 n _ ?_)⟩
    rw [List.getD_eq_getElem?_getD, List.getElem?_eq_getElem (by omega)]
    rfl
  have HLT : Hid (∀ n, n < N → L.getD n 0 < 32) := fun n hn => by
    rw [List.getD_eq_getElem?_getD, List.getElem?_eq_getElem (by omega)]
    exact hlt _ (List.getElem_mem _)
  have c1 := Hid.mk' (CN w)
  have cP : Hid (∀ wx p F k x us ub sb, k < 100 → x < 32 → L.getD k 0 = x → upS L k = us → upB k = ub → Rep wx p F ⟨lnS L k, arn0.fr, k⟩ → w.heap.size ≤ sb → ¬ F sb → LoS wx sb (sesL x k us ub) → Calls Try.prog 21 #[ptr p, nun x, (slotL x k us ub).v] wx fun e w' => e = .returned .nilIface ∧ LoS w' sb (sesL x k us ub) ∧ Hid (An.Left Rep wx w' p F ⟨lnS L (k + 1), arn0.fr, k + 1⟩)) := fun wx p F k x us ub sb hk hx e1 e2 e3 h hs hn hl => by
    have := CP wx p F ⟨lnS L k, arn0.fr, k⟩ x (slotL x k us ub) h ⟨lnS_len L k, good0.nd, good0.lt⟩ (by show k ≤ _; omega) (by omega)
    unfold Arn.put at this
    rw [if_pos (by omega)] at this
    simp only [Int.toNat_natCast] at this
    refine this.mono ?_
    rintro e w' ⟨rfl, G, g1, g2, g3⟩
    refine ⟨rfl, (g2.block sb (Array.getElem?_eq_some_iff.1 hl).1 hn).trans hl, G, ?_, g2, g3⟩
    rw [lnS, e1, e2, e3]
    exact g1
  have HH := Hid.mk' H
  clear hcell hlt CN CP H hN
  go_enter Try.func16, Try.ntmps16
  go_wp2_with fail
  refine c1.out.mono ?_
  rintro e w1 ⟨p, F, rfl, hr1, hf1, hb1⟩
  have H0 : Hid (∃ F, Rep w1 p F ⟨lnS L 0, arn0.fr, 0⟩ ∧ (∀ k, F k → w.heap.size ≤ k) ∧ Below w.heap.size w w1) := ⟨F, hr1, hf1, hb1⟩
  clear hr1 hf1 hb1 c1
  go_wp2_with fail
  go_loopw [4] (fun iv wr => ∃ k : Nat, k ≤ N ∧ iv = nun k ∧ Hid (∃ F, Rep wr p F ⟨lnS L k, arn0.fr, k⟩ ∧ (∀ k, F k → w.heap.size ≤ k) ∧ Below w.heap.size w wr)) (fun iv _ => N - (intOf iv).toNat)
  case atStart => exact ⟨0, Nat.zero_le _, rfl, H0⟩
  case round =>
    clear H0
    obtain ⟨k, hk, rfl, HK⟩ := hrel
    obtain ⟨F1, h1, h2, h3⟩ := HK.out
    by_cases hlt : k < N
    · have hkI : (k : Int) < (N : Int) := by omega
      obtain ⟨g, rfl, q0⟩ := HCL.out k wr hlt h3
      have HCX : Hid (∀ n wx, n < N → Below w.heap.size w wx → wx.cell? ⟨g, n, none⟩ = some (nun (L.getD n 0))) := fun n wx hn hb => by
        obtain ⟨g', e', h'⟩ := HCL.out n wx hn hb
        simp only [Option.some.injEq, Addr.mk.injEq, and_true] at e'
        subst e'
        exact h'
      obtain ⟨x, hx⟩ : ∃ x, L.getD k 0 = x := ⟨_, rfl⟩
      have hx32 : x < 32 := by rw [← hx]; exact HLT.out k hlt
      rw [hx] at q0
      have HX := Hid.mk' hx
      have HZ := Hid.mk' (los_zero wr)
      have HBZ : Hid (Below wr.heap.size wr (wr.alloc (.cells sesZ 50))) := (Below.refl _ _).alloc (Nat.le_refl _) _
      have HR1 := Hid.mk' h1
      have HF1 := Hid.mk' h2
      have HB1 := Hid.mk' h3
      clear h1 h2 h3 HK hx HCL
      cases k with
      | zero =>
        have cPx : Hid (∀ wx, Rep wx p F1 ⟨lnS L 0, arn0.fr, 0⟩ → w.heap.size ≤ wr.heap.size → ¬ F1 wr.heap.size → LoS wx wr.heap.size (sesL x 0 0 0) → _) := fun wx a b c d => cP.out wx p F1 0 x 0 0 wr.heap.size (by omega) hx32 HX.out rfl rfl a b c d
        clear cP
        go_upto_region 10 with (first | (refine wpList_store_los rfl _ _ rfl wr.heap.size rfl (sesL x 0 0 0) rfl ses0 HZ.out ?_; intro w2 hl2 hg2 hs2; have HL2 := Hid.mk' hl2; have HB2 : Hid (Below wr.heap.size wr w2) := (HBZ.out.grown hg2 HBZ.out.size (fun r e => by cases e; exact Nat.le_refl _)); clear hl2 hg2 hs2) | fail)
        obtain ⟨sb, hsb⟩ : ∃ sb, wr.heap.size = sb := ⟨_, rfl⟩
        have hnF : ¬ F1 sb := fun e => by have := HH.out.lt HR1.out sb e; omega
        have hle : w.heap.size ≤ sb := by have := HB1.out.size; omega
        rw [hsb] at HL2 cPx HB2
        simp only [hsb]
        have HBw : Hid (Below w.heap.size w w2.drew) := (HB1.out.trans (HB2.out.mono (by have := HB1.out.size; omega))).drew
        have HRx : Hid (Rep w2.drew p F1 ⟨lnS L 0, arn0.fr, 0⟩) := HH.out.below HR1.out (by rw [hsb]; exact HB2.out.drew)
        have c5 := Hid.mk' (cPx.out w2.drew HRx.out hle hnF HL2.out)
        have hS : w2.cell? ⟨g, 0, none⟩ = some (nun x) ∧ LoS w2 sb (sesL x 0 0 0) := ⟨by have := HCX.out (0) w2.drew hlt HBw.out; rw [HX.out] at this; exact this, HL2.out⟩
        have HGN : Hid (∀ w', An.Left Rep w2.drew w' p F1 ⟨lnS L (0 + 1), arn0.fr, 0 + 1⟩ → ∃ F, Rep w' p F ⟨lnS L (0 + 1), arn0.fr, 0 + 1⟩ ∧ (∀ k, F k → w.heap.size ≤ k) ∧ Below w.heap.size w w') := fun w' ⟨G, g1, g2, g3⟩ => ⟨G, g1, fun j hj => (g3 j hj).elim (HF1.out j) (fun e => Nat.le_trans HBw.out.size e), HBw.out.trans (g2.below (fun j hj hc => by have := HF1.out j hc; omega) HBw.out.size)⟩
        have HSC : Hid (∀ w', An.Left Rep w2.drew w' p F1 ⟨lnS L (0 + 1), arn0.fr, 0 + 1⟩ → w'.cell? ⟨g, 0, none⟩ = some (nun x)) := fun w' hl => by have := HCX.out (0) w' hlt (by obtain ⟨_, _, _, h⟩ := HGN.out w' hl; exact h); rw [HX.out] at this; exact this
        clear cPx HCX HZ HBZ HB2 HL2 HRx q0 hsb
        refine wp_region_held_drew (S := fun w' => w'.cell? ⟨g, 0, none⟩ = some (nun x) ∧ LoS w' sb (sesL x 0 0 0)) (by kernel_rfl) hS (fun hHeld => ?_)
        refine wpAnyH_take (i := 0) (v := ?_) rfl (by kernel_rfl) (by kernel_rfl) (by kernel_rfl) (fun _ _ _ h => h) (Or.inl ⟨by rfl, ?_⟩) hHeld ?_
        rotate_left
        · (intro w' hS'; have hq1 := hS'.1; go_simp <;> with_reducible rfl)
        simp only [Act.put, List.getElem_toArray, List.getElem_cons_succ, List.getElem_cons_zero, List.setIfInBounds_toArray, List.set]
        refine wpAnyH_take (i := 1) (v := ?_) rfl (by kernel_rfl) (by kernel_rfl) (by kernel_rfl) (fun _ _ _ h => h) (Or.inl ⟨by rfl, ?_⟩) hHeld ?_
        rotate_left
        · (intro w' hS'; have hq1 := hS'.1; go_simp <;> with_reducible rfl)
        simp only [Act.put, List.getElem_toArray, List.getElem_cons_succ, List.getElem_cons_zero, List.setIfInBounds_toArray, List.set]
        refine wpAnyH_take (i := 2) (v := ?_) rfl (by kernel_rfl) (by kernel_rfl) (by kernel_rfl) (fun _ _ _ h => h) (Or.inl ⟨by rfl, ?_⟩) hHeld ?_
        rotate_left
        · (intro w' hS'; have hq1 := hS'.1; go_simp <;> with_reducible rfl)
        simp only [Act.put, List.getElem_toArray, List.getElem_cons_succ, List.getElem_cons_zero, List.setIfInBounds_toArray, List.set]
        refine wpAnyH_take (i := 3) (v := ?_) rfl (by kernel_rfl) (by kernel_rfl) (by kernel_rfl) (fun _ _ _ h => h) (Or.inl ⟨by rfl, ?_⟩) hHeld ?_
        rotate_left
        · (intro w' hS'; have hq1 := hS'.1; go_simp <;> with_reducible rfl)
        simp only [Act.put, List.getElem_toArray, List.getElem_cons_succ, List.getElem_cons_zero, List.setIfInBounds_toArray, List.set]
        refine wpAnyH_take (i := 4) (v := ?_) rfl (by kernel_rfl) (by kernel_rfl) (by kernel_rfl) (fun _ _ _ h => h) (Or.inl ⟨by rfl, ?_⟩) hHeld ?_
        rotate_left
        · (intro w' hS'; have hq1 := hS'.1; go_simp <;> with_reducible rfl)
        simp only [Act.put, List.getElem_toArray, List.getElem_cons_succ, List.getElem_cons_zero, List.setIfInBounds_toArray, List.set]
        refine wpAnyH_take (i := 5) (v := _) rfl (by kernel_rfl) (by kernel_rfl) (by kernel_rfl) (fun _ _ _ h => h) (yieldsIf_load_mid (by rfl) 50 _ rfl sb 0 rfl (sesL x 0 0 0).cells _ (fun w' h => h.2.range) Try.underlying50 rfl size_ses) hHeld ?_
        simp only [Act.put, List.getElem_toArray, List.getElem_cons_succ, List.getElem_cons_zero, List.setIfInBounds_toArray, List.set]
        refine wpAnyH_take (i := 6) (v := (slotL x 0 0 0).v) rfl (by kernel_rfl) (by kernel_rfl) (by kernel_rfl) (fun _ _ _ h => h) (Or.inl ⟨by rfl, ?_⟩) hHeld ?_
        · (intro w' hS'; kernel_rfl)
        simp only [Act.put, List.getElem_toArray, List.getElem_cons_succ, List.getElem_cons_zero, List.setIfInBounds_toArray, List.set]
        refine wpAnyH_ready (rs := [7]) (by kernel_rfl) (by simp) ?_
        refine AllReadyH.cons rfl (fun K hK => ?_) AllReadyH.nil
        go_simp
        refine c5.out.mono ?_
        rintro e w5 ⟨rfl, hl5, hQ5⟩
        go_wp2_with fail
        refine hK.out _ _ ⟨HSC.out w5 hQ5.out, hl5⟩ (fun hHeld => ?_)
        clear hK K
        refine wpAnyH_take (i := 8) (v := ?_) rfl (by kernel_rfl) (by kernel_rfl) (by kernel_rfl) (fun _ _ _ h => h) (Or.inl ⟨by rfl, ?_⟩) hHeld ?_
        rotate_left
        · (intro w' hS'; go_simp <;> with_reducible rfl)
        simp only [Act.put, List.getElem_toArray, List.getElem_cons_succ, List.getElem_cons_zero, List.setIfInBounds_toArray, List.set]
        refine wpAnyH_done (by kernel_rfl) ?_ _
        clear hHeld
        have HN5 := Hid.mk' (HGN.out w5 hQ5.out)
        clear hQ5 HGN HSC
        go_wp2
        go_roundw
        case rel => exact ⟨0 + 1, by omega, by go_num, HN5⟩
        case measure => simp [intOf]; omega
      | succ m =>
        have q1 := HCX.out m wr (by omega) HB1.out
        obtain ⟨y, hy⟩ : ∃ y, L.getD m 0 = y := ⟨_, rfl⟩
        rw [hy] at q1
        have HY := Hid.mk' hy
        have hus : upS L (m + 1) = (y : Int) := by
          unfold upS
          rw [if_neg (by omega), Nat.add_sub_cancel, hy]
        have hub : upB (m + 1) = 9 + ((m : Int) + 1) := by
          unfold upB
          rw [if_neg (by omega)]
          omega
        have cPx : Hid (∀ wx, Rep wx p F1 ⟨lnS L (m + 1), arn0.fr, m + 1⟩ → w.heap.size ≤ wr.heap.size → ¬ F1 wr.heap.size → LoS wx wr.heap.size (sesL x (m + 1) y (9 + ((m : Int) + 1))) → _) := fun wx a b c d => cP.out wx p F1 (m + 1) x y (9 + ((m : Int) + 1)) wr.heap.size (by omega) hx32 HX.out hus hub a b c d
        have hmI : (0 : Int) < ((m + 1 : Nat) : Int) := by omega
        have hm0 : (0 : Int) ≤ (m : Int) + 1 := by omega
        have hmN : (m : Int) + 1 < (N : Int) := by omega
        clear cP hus hub hy
        go_upto_region 9 with (first | (refine wpList_store_los rfl _ _ rfl wr.heap.size rfl (sesL x (m + 1) 0 0) rfl ses0 HZ.out ?_; intro w2 hl2 hg2 hs2; have HL1 := Hid.mk' hl2; have HB3 : Hid (Below wr.heap.size wr w2) := (HBZ.out.grown hg2 HBZ.out.size (fun r e => by cases e; exact Nat.le_refl _)); clear hl2 hg2 hs2) | fail)
        clear q0 q1
        have hB1w : Below w.heap.size w w2 := HB1.out.trans (HB3.out.mono HB1.out.size)
        have q1 := HCX.out m w2 (by omega) hB1w
        rw [HY.out] at q1
        obtain ⟨z2, z3⟩ := HL1.out.ups
        have zf2 := HL1.out.open 2
        have zf3 := HL1.out.open 3
        have HL2 : Hid (LoS ((w2.setCell ⟨wr.heap.size, 2, none⟩ (nu y)).setCell ⟨wr.heap.size, 3, none⟩ (nu (9 + ((m : Int) + 1)))) wr.heap.size (sesL x (m + 1) y (9 + ((m : Int) + 1)))) := HL1.out.set y (9 + ((m : Int) + 1))
        have HB2 : Hid (Below wr.heap.size wr ((w2.setCell ⟨wr.heap.size, 2, none⟩ (nu y)).setCell ⟨wr.heap.size, 3, none⟩ (nu (9 + ((m : Int) + 1))))) := (HB3.out.setCell (p := ⟨wr.heap.size, 2, none⟩) (Nat.le_refl _) _).setCell (p := ⟨wr.heap.size, 3, none⟩) (Nat.le_refl _) _
        clear hB1w
        go_upto_region 10 with fail
        clear z2 z3 zf2 zf3 q1 HL1 HB3
        generalize (w2.setCell ⟨wr.heap.size, 2, none⟩ (nu y)).setCell ⟨wr.heap.size, 3, none⟩ (nu (9 + ((m : Int) + 1))) = w3 at *
        have q0 := True.intro
        obtain ⟨sb, hsb⟩ : ∃ sb, wr.heap.size = sb := ⟨_, rfl⟩
        have hnF : ¬ F1 sb := fun e => by have := HH.out.lt HR1.out sb e; omega
        have hle : w.heap.size ≤ sb := by have := HB1.out.size; omega
        rw [hsb] at HL2 cPx HB2
        simp only [hsb]
        have HBw : Hid (Below w.heap.size w w3.drew) := (HB1.out.trans (HB2.out.mono (by have := HB1.out.size; omega))).drew
        have HRx : Hid (Rep w3.drew p F1 ⟨lnS L (m + 1), arn0.fr, (m + 1)⟩) := HH.out.below HR1.out (by rw [hsb]; exact HB2.out.drew)
        have c5 := Hid.mk' (cPx.out w3.drew HRx.out hle hnF HL2.out)
        have hS : w3.cell? ⟨g, (m + 1), none⟩ = some (nun x) ∧ LoS w3 sb (sesL x (m + 1) y (9 + ((m : Int) + 1))) := ⟨by have := HCX.out ((m + 1)) w3.drew hlt HBw.out; rw [HX.out] at this; exact this, HL2.out⟩
        have HGN : Hid (∀ w', An.Left Rep w3.drew w' p F1 ⟨lnS L ((m + 1) + 1), arn0.fr, (m + 1) + 1⟩ → ∃ F, Rep w' p F ⟨lnS L ((m + 1) + 1), arn0.fr, (m + 1) + 1⟩ ∧ (∀ k, F k → w.heap.size ≤ k) ∧ Below w.heap.size w w') := fun w' ⟨G, g1, g2, g3⟩ => ⟨G, g1, fun j hj => (g3 j hj).elim (HF1.out j) (fun e => Nat.le_trans HBw.out.size e), HBw.out.trans (g2.below (fun j hj hc => by have := HF1.out j hc; omega) HBw.out.size)⟩
        have HSC : Hid (∀ w', An.Left Rep w3.drew w' p F1 ⟨lnS L ((m + 1) + 1), arn0.fr, (m + 1) + 1⟩ → w'.cell? ⟨g, (m + 1), none⟩ = some (nun x)) := fun w' hl => by have := HCX.out ((m + 1)) w' hlt (by obtain ⟨_, _, _, h⟩ := HGN.out w' hl; exact h); rw [HX.out] at this; exact this
        clear cPx HCX HZ HBZ HB2 HL2 HRx q0 hsb
        refine wp_region_held_drew (S := fun w' => w'.cell? ⟨g, (m + 1), none⟩ = some (nun x) ∧ LoS w' sb (sesL x (m + 1) y (9 + ((m : Int) + 1)))) (by kernel_rfl) hS (fun hHeld => ?_)
        refine wpAnyH_take (i := 0) (v := ?_) rfl (by kernel_rfl) (by kernel_rfl) (by kernel_rfl) (fun _ _ _ h => h) (Or.inl ⟨by rfl, ?_⟩) hHeld ?_
        rotate_left
        · (intro w' hS'; have hq1 := hS'.1; go_simp <;> with_reducible rfl)
        simp only [Act.put, List.getElem_toArray, List.getElem_cons_succ, List.getElem_cons_zero, List.setIfInBounds_toArray, List.set]
        refine wpAnyH_take (i := 1) (v := ?_) rfl (by kernel_rfl) (by kernel_rfl) (by kernel_rfl) (fun _ _ _ h => h) (Or.inl ⟨by rfl, ?_⟩) hHeld ?_
        rotate_left
        · (intro w' hS'; have hq1 := hS'.1; go_simp <;> with_reducible rfl)
        simp only [Act.put, List.getElem_toArray, List.getElem_cons_succ, List.getElem_cons_zero, List.setIfInBounds_toArray, List.set]
        refine wpAnyH_take (i := 2) (v := ?_) rfl (by kernel_rfl) (by kernel_rfl) (by kernel_rfl) (fun _ _ _ h => h) (Or.inl ⟨by rfl, ?_⟩) hHeld ?_
        rotate_left
        · (intro w' hS'; have hq1 := hS'.1; go_simp <;> with_reducible rfl)
        simp only [Act.put, List.getElem_toArray, List.getElem_cons_succ, List.getElem_cons_zero, List.setIfInBounds_toArray, List.set]
        refine wpAnyH_take (i := 3) (v := ?_) rfl (by kernel_rfl) (by kernel_rfl) (by kernel_rfl) (fun _ _ _ h => h) (Or.inl ⟨by rfl, ?_⟩) hHeld ?_
        rotate_left
        · (intro w' hS'; have hq1 := hS'.1; go_simp <;> with_reducible rfl)
        simp only [Act.put, List.getElem_toArray, List.getElem_cons_succ, List.getElem_cons_zero, List.setIfInBounds_toArray, List.set]
        refine wpAnyH_take (i := 4) (v := ?_) rfl (by kernel_rfl) (by kernel_rfl) (by kernel_rfl) (fun _ _ _ h => h) (Or.inl ⟨by rfl, ?_⟩) hHeld ?_
        rotate_left
        · (intro w' hS'; have hq1 := hS'.1; go_simp <;> with_reducible rfl)
        simp only [Act.put, List.getElem_toArray, List.getElem_cons_succ, List.getElem_cons_zero, List.setIfInBounds_toArray, List.set]
        refine wpAnyH_take (i := 5) (v := _) rfl (by kernel_rfl) (by kernel_rfl) (by kernel_rfl) (fun _ _ _ h => h) (yieldsIf_load_mid (by rfl) 50 _ rfl sb 0 rfl (sesL x (m + 1) y (9 + ((m : Int) + 1))).cells _ (fun w' h => h.2.range) Try.underlying50 rfl size_ses) hHeld ?_
        simp only [Act.put, List.getElem_toArray, List.getElem_cons_succ, List.getElem_cons_zero, List.setIfInBounds_toArray, List.set]
        refine wpAnyH_take (i := 6) (v := (slotL x (m + 1) y (9 + ((m : Int) + 1))).v) rfl (by kernel_rfl) (by kernel_rfl) (by kernel_rfl) (fun _ _ _ h => h) (Or.inl ⟨by rfl, ?_⟩) hHeld ?_
        · (intro w' hS'; kernel_rfl)
        simp only [Act.put, List.getElem_toArray, List.getElem_cons_succ, List.getElem_cons_zero, List.setIfInBounds_toArray, List.set]
        refine wpAnyH_ready (rs := [7]) (by kernel_rfl) (by simp) ?_
        refine AllReadyH.cons rfl (fun K hK => ?_) AllReadyH.nil
        go_simp
        refine c5.out.mono ?_
        rintro e w5 ⟨rfl, hl5, hQ5⟩
        go_wp2_with fail
        refine hK.out _ _ ⟨HSC.out w5 hQ5.out, hl5⟩ (fun hHeld => ?_)
        clear hK K
        refine wpAnyH_take (i := 8) (v := ?_) rfl (by kernel_rfl) (by kernel_rfl) (by kernel_rfl) (fun _ _ _ h => h) (Or.inl ⟨by rfl, ?_⟩) hHeld ?_
        rotate_left
        · (intro w' hS'; go_simp <;> with_reducible rfl)
        simp only [Act.put, List.getElem_toArray, List.getElem_cons_succ, List.getElem_cons_zero, List.setIfInBounds_toArray, List.set]
        refine wpAnyH_done (by kernel_rfl) ?_ _
        clear hHeld
        have HN5 := Hid.mk' (HGN.out w5 hQ5.out)
        clear hQ5 HGN HSC
        go_wp2
        go_roundw
        case rel => exact ⟨(m + 1) + 1, by omega, by go_num, HN5⟩
        case measure => simp [intOf]; omega
    · have hkI : ¬ (k : Int) < (N : Int) := by omega
      obtain rfl : k = N := by omega
      go_wp2
      go_ret
      exact ⟨p, rfl, F1, h1, h2, h3⟩
end Wk
end Go.Proofs.Ytbkcpjgaoncioaa
