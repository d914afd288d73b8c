import Derived.Test.YtjnodkjeiogloaaDoorKnoM
import Derived.Test.YtjnodkjeiogloaaDoorScansK
import Derived.Test.YtjnodkjeiogloaaDoorScaM
/- Records in which any byte of any block is turned. -/
namespace Go.Proofs.YtjnodkjeiogloaaDoor
set_option linter.ambiguousOpen false
open Go.RowKit
namespace Rc
open Sm Pk
set_option linter.unusedSimpArgs false
set_option linter.unusedVariables false

set_option maxRecDepth 100000 in
set_option maxHeartbeats 2000000 in
theorem copyT_any (v : Value) (l : List (List UInt8)) (w : World) (hR : Nm.Rd w v l) (hl : l.length ≤ 1000) :
    Calls Tryd.prog 26 #[v] w fun e w' => ∃ v', e = .returned v' ∧ w'.ownsRow w.heap.size 9 1 v' l.length (l.map Nm.txt) ∧ Below w.heap.size w w' := by
  obtain ⟨i0, hi, hz0, hz1, hz2⟩ := info_parts (show (Tryd.prog.info? 9).map (fun i => (i.zero, i.size, i.bytes)) = some (some (.string ⟨#[]⟩), 1, 16) by kernel_rfl)
  obtain ⟨a, cap, rfl, hc, hm, hcell⟩ := hR
  unfold maxLen at hm
  have HC : Hid (0 < l.length → ∃ g o, a = some ⟨g, o, none⟩ ∧ g < w.heap.size ∧ ∀ j (hj : j < l.length), w.cell? ⟨g, o + j, none⟩ = some (.string (Nm.B l[j]))) := hcell
  clear hcell
  go_enter Tryd.func26, Tryd.ntmps26
  go_wp2
  go_loopw [3, 4] (fun pv iv wr => ∃ k : Nat, k ≤ l.length ∧ iv = .int .i64 k ∧ wr.ownsRow w.heap.size 9 1 pv k ((l.take k).map Nm.txt) ∧ Below w.heap.size w wr) (fun _ iv _ => l.length - (intOf iv).toNat)
  case atStart => exact ⟨0, Nat.zero_le _, rfl, World.ownsRow_nil _ _ _ _, Below.refl _ _⟩
  case round =>
    obtain ⟨k, hk, rfl, hown, hbel⟩ := hrel
    by_cases hp : k < l.length
    · obtain ⟨g, o, rfl, hgl, hcj⟩ := HC.out (Nat.lt_of_le_of_lt (Nat.zero_le _) hp)
      have hck : wr.cell? ⟨g, o + k, none⟩ = some (.string (Nm.B l[k])) := (hbel.cell (p := ⟨g, o + k, none⟩) hgl).trans (hcj k hp)
      have HS : Hid ((l.take (k + 1)).map Nm.txt = (l.take k).map Nm.txt ++ [Nm.txt l[k]]) := by
        show _ = _
        rw [List.take_succ_eq_append_getElem hp, List.map_append]
        rfl
      clear hcj
      go_wp2_with (at_builtin; refine wpList_append_own _ rfl _ _ 25 rfl w.heap.size 9 i0 (.string ⟨#[]⟩) 1 16 Tryd.underlying25 hi hz0 hz1 hz2 rfl (by decide) _ _ _ rfl (hown.alloc _) ⟨wr.heap.size, 0, none⟩ 1 1 [.string (Nm.B l[k])] rfl rfl (cell_one_new _ _ _) (by simp [Value.oneCell']) (by unfold maxLen; omega) (by omega) (by have := hbel.size; simp; omega) ?_; intro v' w4 hown4 hgrow _; have hbel4 : Below w.heap.size w w4 := Below.grown (hbel.alloc (by exact hbel.size) _) hgrow (by have := hbel.size; simp; omega) (fun k hk => (hown.lt k hk).1))
      go_roundw
      case rel => exact ⟨k + 1, by omega, by go_num, by rw [HS.out]; exact hown4, hbel4⟩
      case measure => simp [intOf]; omega
    · obtain rfl : k = l.length := by omega
      rw [List.take_length] at hown
      go_wp2
      go_ret
      exact ⟨_, rfl, hown, hbel⟩

/-- The blocks. -/
def bls : List (List UInt8) := flat 9 [payR 3, payR 300]

theorem bls_eq : bls = [firstB 9 (payR 3), firstB 9 (payR 300), 99 :: (payR 300).drop 245] := by
  have h1 : restB ((payR 3).drop 245) = [] := by rw [List.drop_eq_nil_of_le (by rw [payR_len]; omega), restB_nil]
  have h2 : restB ((payR 300).drop 245) = [99 :: (payR 300).drop 245] := by
    have hl : ((payR 300).drop 245).length = 55 := by rw [List.length_drop, payR_len]
    generalize (payR 300).drop 245 = q at *
    rw [restB_cons q (fun e => by rw [e] at hl; simp at hl), List.take_of_length_le (show q.length ≤ 255 by omega), List.drop_eq_nil_of_le (show q.length ≤ 255 by omega), restB_nil]
  simp [bls, flat, blocks, h1, h2]

theorem bls_len : bls.length = 3 := by rw [bls_eq]; rfl

theorem bls_short : ∀ t ∈ bls, t.length ≤ 256 := fun t ht => by
  obtain ⟨q, _, hq⟩ := List.mem_flatMap.1 ht
  exact blocks_short 9 q t hq

theorem bls_one : ∃ b1 b2, bls[1]? = some b1 ∧ bls[2]? = some b2 ∧ 9 ≤ b1.length ∧ 1 ≤ b2.length := by
  rw [bls_eq]
  refine ⟨_, _, rfl, rfl, ?_, by simp⟩
  rw [firstB, List.length_append, topB_len]
  omega

/-- Lists of texts, each of which may be asked. -/
def Sml (ls : List (List UInt8)) : Prop := ls.length ≤ 3 ∧ ∀ t ∈ ls, t.length ≤ 1000

theorem bls_sml : Sml bls := ⟨by rw [bls_len]; omega, fun t ht => by have := bls_short t ht; omega⟩

theorem Sml.set {ls : List (List UInt8)} (h : Sml ls) (i : Nat) (t : List UInt8) (ht : t.length ≤ 1000) : Sml (ls.set i t) := by
  refine ⟨by rw [List.length_set]; exact h.1, fun x hx => ?_⟩
  rcases List.mem_or_eq_of_mem_set hx with hx | rfl
  · exact h.2 x hx
  · exact ht

theorem scans_sml (ep : Nat) (ls : List (List UInt8)) (v : Value) (k : Nat) (w : World) (hep : ep < 4294967296) (hR : Nm.Rd w v ls) (hs : Sml ls) (hk : k ≤ 1000) : Calls Tryd.prog 27 #[.int .u32 (ep : Int), v, .int .i64 (k : Int)] w fun e w' => e = .returned (.bool true) ∧ Below w.heap.size w w' :=
  scans_yes ep v ls (k : Int) w hep hR (by have := hs.1; omega) (fun t ht => by have := hs.2 t ht; omega) (by omega)

theorem again_sml (ep : Nat) (ls : List (List UInt8)) (v : Value) (w : World) (hep : ep < 4294967296) (hR : Nm.Rd w v ls) (hs : Sml ls) : Calls Tryd.prog 28 #[.int .u32 (ep : Int), v] w fun e w' => e = .returned (.bool true) ∧ Below w.heap.size w w' :=
  again_yes Pr.frame_p Pr.scan_p ep v ls w hep hR (by have := hs.1; omega) (fun t ht => by have := hs.2 t ht; omega)

/-- A list of three texts of one's own: its cells; a text set. -/
theorem own_txt {W : World} {base g c : Nat} {ls : List (List UInt8)} (h : W.ownsRow base 9 1 (.slice (some ⟨g, 0, none⟩) 3 c) 3 (ls.map Nm.txt)) (i : Nat) (b : List UInt8) (hi : ls[i]? = some b) : W.cell? ⟨g, i, none⟩ = some (.string (tx b)) := by
  have := h.cells (g := g) rfl i (.string (tx b)) (by rw [List.getElem?_map, hi]; rfl)
  rw [Addr.add_lit, Nat.zero_add] at this
  exact this

theorem own_txt_set {W : World} {base g c : Nat} {ls : List (List UInt8)} (h : W.ownsRow base 9 1 (.slice (some ⟨g, 0, none⟩) 3 c) 3 (ls.map Nm.txt)) (i : Nat) (b : List UInt8) : (W.setCell ⟨g, i, none⟩ (.string (tx b))).ownsRow base 9 1 (.slice (some ⟨g, 0, none⟩) 3 c) 3 ((ls.set i b).map Nm.txt) := by
  rw [List.map_set]
  exact Nm.own_set h i (.string (tx b))

theorem xor_one (y : UInt8) : bits .xor .u8 (y.toNat : Int) 1 = ((y ^^^ 1).toNat : Int) := by
  have h := u8_xor_nat y.toNat 1 y.toNat_lt (by decide)
  have e : ((1 : Nat) : Int) = 1 := rfl
  rw [e] at h
  rw [h]
  congr 1

theorem laid_nine (w : World) (v : Value) (hR : RdL w v [payR 3, payR 300]) : Calls Tryd.prog 25 #[.int .u32 9, v] w fun e w' => ∃ g c ov, e = .returned (.tuple #[.slice (some ⟨g, 0, none⟩) 3 c, ov, .bool true]) ∧ Nm.Rd w' (.slice (some ⟨g, 0, none⟩) 3 c) bls ∧ 3 ≤ c ∧ (∃ a n k, ov = .slice a n k) ∧ Below w.heap.size w w' := by
  refine (laid_any Pr.frame_p 9 v [payR 3, payR 300] w (by decide) hR (by simp)).mono ?_
  rintro e w' ⟨bv, ov, vs, m, rfl, hL⟩
  have e1 : [payR 3, payR 300].map (·.take 512) = [payR 3, payR 300] := by
    simp only [List.map_cons, List.map_nil]
    rw [List.take_of_length_le (by rw [payR_len]; omega), List.take_of_length_le (by rw [payR_len]; omega)]
  have hbl := hL.bl
  have hml := hL.ml
  rw [e1] at hbl hml
  have hm : m = 3 := by rw [← hml]; exact bls_len
  subst hm
  obtain ⟨g, c, rfl, hc, _⟩ := own_posB hbl (by decide)
  obtain ⟨oa, oc, rfl, _⟩ := Nm.own_shape hL.out
  refine ⟨g, c, _, rfl, ?_, hc, ⟨_, _, _, rfl⟩, hL.bel⟩
  have h3 : bls.length = 3 := bls_len
  exact Nm.rd_own (base := w.heap.size) (by rw [h3]; exact hbl)

/-- Some of the blocks. -/
theorem bls_part {W : World} {g c : Nat} (h : Nm.Rd W (.slice (some ⟨g, 0, none⟩) 3 c) bls) (i j : Nat) (hij : i ≤ j) (hj : j ≤ 3) : Nm.Rd W (.slice (further (some ⟨g, 0, none⟩) c i) (j - i) (c - i)) ((bls.drop i).take (j - i)) ∧ Sml ((bls.drop i).take (j - i)) := by
  refine ⟨rd_part bls_len h i j hij hj, ?_, fun t ht => bls_sml.2 t (List.mem_of_mem_drop (List.mem_of_mem_take ht))⟩
  rw [List.length_take, List.length_drop, bls_len]
  omega

theorem slice_fromT (a : Option Addr) (len cap k : Nat) (h : k ≤ len) (hc : len ≤ cap) (w : World) : (Instr.slice 25 (.slice a len cap) (some (.int .i64 (k : Int))) none none).run Tryd.prog w = .ok (.slice (further a cap k) (len - k) (cap - k)) w := by
  have h1 : (0 : Int) ≤ (k : Int) ∧ (k : Int) ≤ (len : Int) := by omega
  have hu := Tryd.underlying25
  cases a with
  | none =>
    simp [Instr.slice, Instr.sliceBounds, Instr.sliceBound, asIntOf, run_underlying hu, further]
    intro hh; omega
  | some ad =>
    simp [Instr.slice, Instr.sliceBounds, Instr.sliceBound, asIntOf, run_underlying hu, Addr.add, further]
    intro hh; omega

set_option maxRecDepth 1000000 in
set_option maxHeartbeats 8000000 in
theorem knownTurned_yes (w : World) : Calls Tryd.prog 13 #[] w fun e w' => e = .returned (.bool true) ∧ Below w.heap.size w w' := by
  have c1 := Hid.mk' (row_any 3 w (by omega))
  go_enter Tryd.func13, Tryd.ntmps13
  go_wp2_with fail
  refine c1.out.mono ?_
  rintro e W1 ⟨x1, rfl, ho1, hb1⟩
  have HB1 := Hid.mk' hb1
  have HP1 := Hid.mk' (own_rd' ho1 (payR_len 3))
  have HZ1 := Hid.mk' (nz_own ho1)
  obtain ⟨a1, k1, rfl, _⟩ := Nm.own_shape ho1
  have c2 := Hid.mk' (row_any 300 W1 (by omega))
  clear ho1 hb1 c1
  go_wp2_with fail
  refine c2.out.mono ?_
  rintro e W2 ⟨x2, rfl, ho2, hb2⟩
  have HB2 := Hid.mk' (HB1.out.trans (hb2.mono HB1.out.size))
  have HP12 := Hid.mk' (HP1.out.below hb2)
  have HP2 := Hid.mk' (own_rd' ho2 (payR_len 300))
  have HZ2 := Hid.mk' (nz_own ho2)
  obtain ⟨a2, k2, rfl, _⟩ := Nm.own_shape ho2
  have hba : Below W2.heap.size W2 (W2.alloc (.cells #[.slice a1 3 k1, .slice a2 300 k2] 23)) := (Below.refl _ _).alloc (Nat.le_refl _) _
  have c3 := Hid.mk' (laid_nine _ _ (rdl_lit (heap_alloc_new W2 (.cells #[.slice a1 3 k1, .slice a2 300 k2] 23)) rfl (fun j p hj => by
      match j, hj with
      | 0, hj => simp at hj; subst hj; exact ⟨_, rfl, HP12.out.below hba, HZ1.out⟩
      | 1, hj => simp at hj; subst hj; exact ⟨_, rfl, HP2.out.below hba, HZ2.out⟩
      | j + 2, hj => simp at hj) (by decide)))
  have HB3 := Hid.mk' (HB2.out.trans (hba.mono HB2.out.size))
  clear ho2 hb2 c2 HP1 HP12 HP2 HZ1 HZ2 hba HB2 HB1
  go_wp2_with fail
  refine c3.out.mono ?_
  rintro e W4 ⟨gb, cb, ov, rfl, hrd, hcb, ⟨oa, on, oc, rfl⟩, hb4⟩
  have HB4 := Hid.mk' (HB3.out.trans (hb4.mono HB3.out.size))
  have HRD := Hid.mk' hrd
  clear c3 hb4 hrd HB3
  go_wp2_with fail
  go_loopw [4, 5, 6, 7, 8, 9] (fun iv _ _ _ _ _ wr => ∃ i : Nat, i ≤ 3 ∧ iv = nu (i : Int) ∧ Hid (Below w.heap.size w wr) ∧ Hid (Nm.Rd wr (.slice (some ⟨gb, 0, none⟩) 3 cb) bls)) (fun iv _ _ _ _ _ _ => 3 - (intOf iv).toNat)
  case atStart => exact ⟨0, by omega, rfl, HB4, HRD⟩
  case round =>
  rename World => WR
  clear HB4 HRD
  obtain ⟨i, hi, rfl, HB, HRD⟩ := hrel
  by_cases hi3 : i < 3
  · have hiI : (i : Int) < 3 := by omega
    have hi0 : (0 : Int) ≤ (i : Int) := by omega
    obtain ⟨b, hbi⟩ : ∃ b, bls[i]? = some b := ⟨_, List.getElem?_eq_getElem (by rw [bls_len]; exact hi3)⟩
    have hbl : b.length ≤ 256 := bls_short b (List.mem_of_getElem? hbi)
    obtain ⟨f, hf⟩ : ∃ x, tx b = x := ⟨_, rfl⟩
    have hfs : f.size = b.length := by rw [← hf]; rfl
    have hcb3 : (3 : Int) ≤ (cb : Int) := by omega
    have HCB : Hid (∀ wx, Nm.Rd wx (.slice (some ⟨gb, 0, none⟩) 3 cb) bls → wx.cell? ⟨gb, i, none⟩ = some (.string f)) := fun wx h => by
      obtain ⟨a', cap', e1, _, _, h3⟩ := h
      obtain ⟨g', o', e2, hg', hc'⟩ := h3 (by rw [bls_len]; omega)
      obtain ⟨h5, _, _⟩ : some ⟨gb, 0, none⟩ = a' ∧ 3 = bls.length ∧ cb = cap' := by simpa using e1
      rw [e2] at h5
      obtain ⟨rfl, rfl⟩ : gb = g' ∧ 0 = o' := by simpa using h5
      have := hc' i (by rw [bls_len]; exact hi3)
      rw [Nat.zero_add] at this
      rw [this, ← hf]
      rw [List.getElem?_eq_getElem (by rw [bls_len]; exact hi3)] at hbi
      rw [Option.some.inj hbi]
      rfl
    have HBI := Hid.mk' hbi
    have HF := Hid.mk' hf
    have hfs2 : f.size ≤ 256 := by omega
    have HFS := Hid.mk' hfs
    clear hbi hf hfs
    go_wp2_with fail
    go_loopw [5, 6] (fun kv _ wr => ∃ k : Nat, k ≤ f.size ∧ kv = nu (k : Int) ∧ Hid (Below w.heap.size w wr) ∧ Hid (Nm.Rd wr (.slice (some ⟨gb, 0, none⟩) 3 cb) bls)) (fun kv _ _ => f.size - (intOf kv).toNat)
    case atStart => exact ⟨0, by omega, rfl, HB, HRD⟩
    case round =>
    clear HB HRD
    rename World => WI
    obtain ⟨k, hk, rfl, HB, HRD⟩ := hrel
    have hcg := HCB.out _ HRD.out
    by_cases hkf : k < f.size
    · have hkI : (k : Int) < (f.size : Int) := by omega
      have hk0 : (0 : Int) ≤ (k : Int) := by omega
      have C1 := Hid.mk' (copyT_any _ bls WI HRD.out (by rw [bls_len]; omega))
      rw [bls_len] at C1
      go_wp2_with fail
      refine C1.out.mono ?_
      rintro e W5 ⟨v5, rfl, ho5, hb5⟩
      obtain ⟨gl, cl, rfl, hcl3, _, hglb, hgll⟩ := own_posB ho5 (by decide)
      have hkb : k < b.length := by rw [← HFS.out]; exact hkf
      obtain ⟨y, hy⟩ : ∃ y, byI b k = y := ⟨_, rfl⟩
      obtain ⟨NB, hNB⟩ : ∃ x, b.take k ++ [y ^^^ 1] ++ b.drop (k + 1) = x := ⟨_, rfl⟩
      have hNBl : NB.length ≤ 1000 := by
        rw [← hNB, List.length_append, List.length_append, List.length_take, List.length_drop]
        simp
        omega
      have hx1 := xor_one y
      obtain ⟨y0, hy0⟩ : ∃ n : Nat, y.toNat = n := ⟨_, rfl⟩
      obtain ⟨y1, hy1⟩ : ∃ n : Nat, (y ^^^ 1).toNat = n := ⟨_, rfl⟩
      rw [hy0, hy1] at hx1
      have hidx : ∀ wx, (Instr.index 9 (.string f) (.int .i64 (k : Int))).run Tryd.prog wx = .ok (.int .u8 (y0 : Int)) wx := fun wx => by
        have := idx_at b k hkb wx
        rw [HF.out, hy] at this
        rw [this, ← hy0]
      obtain ⟨f1, hf1⟩ : ∃ x, tx (b.take k) = x := ⟨_, rfl⟩
      obtain ⟨f3, hf3⟩ : ∃ x, tx (b.drop (k + 1)) = x := ⟨_, rfl⟩
      obtain ⟨fy, hfy⟩ : ∃ x, tx [y ^^^ 1] = x := ⟨_, rfl⟩
      have hsl1 : ∀ wx, (Instr.slice 9 (.string f) none (some (.int .i64 (k : Int))) none).run Tryd.prog wx = .ok (.string f1) wx := fun wx => by
        have := cutS_to b k (by omega) wx
        rw [HF.out, hf1] at this
        exact this
      obtain ⟨k', hk'⟩ : ∃ k', k + 1 = k' := ⟨_, rfl⟩
      have hk'0 : (0 : Int) ≤ (k : Int) + 1 := by omega
      have hk'f : (k : Int) + 1 ≤ (f.size : Int) := by omega
      have hk't : ((k : Int) + 1).toNat = k' := by omega
      have hsl3 : ∀ wx, (Instr.slice 9 (.string f) (some (.int .i64 ((k : Int) + 1))) none none).run Tryd.prog wx = .ok (.string f3) wx := fun wx => by
        have := cutS_from b (k + 1) (by omega) wx
        rw [HF.out, hf3] at this
        exact this
      have hE1 : f.extract 0 k = f1 := by rw [← HF.out, ← hf1]; exact tx_take b k
      have hE3 : f.extract k' f.size = f3 := by rw [← HF.out, ← hf3, ← hk']; exact tx_drop b (k + 1)
      have z1 : f1.size ≤ 256 := by
        rw [← hf1]
        show (b.take k).length ≤ 256
        rw [List.length_take]
        omega
      have z3 : f3.size ≤ 256 := by
        rw [← hf3]
        show (b.drop (k + 1)).length ≤ 256
        rw [List.length_drop]
        omega
      have zy : fy.size ≤ 1 := by rw [← hfy]; exact Nat.le_refl _
      obtain ⟨f2, hf2⟩ : ∃ x, f1 ++ fy = x := ⟨_, rfl⟩
      obtain ⟨f4, hf4⟩ : ∃ x, f2 ++ f3 = x := ⟨_, rfl⟩
      have HF4 : Hid (f4 = tx NB) := by
        show _ = _
        rw [← hf4, ← hf2, ← hf1, ← hf3, ← hfy, Pr.tx_app, Pr.tx_app, hNB]
      have z2 : f2.size ≤ 300 := by
        rw [← hf2, ByteArray.size_append]
        omega
      have had1 : ∀ wx, (Op.stringOp .add f1 fy).run Tryd.prog wx = .ok (.string f2) wx := fun wx => by
        rw [← hf2]
        have hsz : f1.size + fy.size ≤ 9223372036854775807 := by omega
        simp [go_sem, hsz]
      have had2 : ∀ wx, (Op.stringOp .add f2 f3).run Tryd.prog wx = .ok (.string f4) wx := fun wx => by
        rw [← hf4]
        have hsz : f2.size + f3.size ≤ 9223372036854775807 := by omega
        simp [go_sem, hsz]
      have hrdy : ∀ wx : World, RdB (wx.alloc (.cells #[.int .u8 (y1 : Int)] 5)) (.slice (some ⟨wx.heap.size, 0, none⟩) 1 1) [y ^^^ 1] := fun wx => by
        have := rd_newR wx [y ^^^ 1] (by simp)
        rw [← hy1]
        exact this
      have hcv1 := conv_rd (hrdy W5)
      have hcv2 := conv_rd ((hrdy W5).below (Below.refl _ _).drew)
      have hcv3 := conv_rd (hrdy W5.drew)
      rw [hfy] at hcv1 hcv2 hcv3
      have hcl := own_txt ho5 i b HBI.out
      rw [HF.out] at hcl
      have hfr := own_free ho5 i
      have hba : Below W5.heap.size W5 (W5.alloc (.cells #[.int .u8 (y1 : Int)] 5)) := (Below.refl _ _).alloc (Nat.le_refl _) _
      have hcl2 : (W5.alloc (.cells #[.int .u8 (y1 : Int)] 5)).cell? ⟨gl, i, none⟩ = some (.string f) := (hba.cell (p := ⟨gl, i, none⟩) hgll).trans hcl
      have hfr2 : (W5.alloc (.cells #[.int .u8 (y1 : Int)] 5)).frozen? ⟨gl, i, none⟩ = false := own_free (own_keptB ho5 hba) i
      have hne : (⟨gl, i, none⟩ : Addr).block ≠ W5.heap.size := by show gl ≠ _; omega
      have HB5 := Hid.mk' (HB.out.trans (hb5.mono HB.out.size))
      have HRES : Hid (∀ wx, Below (W5.setCell ⟨gl, i, none⟩ (.string f4)).heap.size (W5.setCell ⟨gl, i, none⟩ (.string f4)) wx → Below w.heap.size w wx ∧ wx.ownsRow WI.heap.size 9 1 (.slice (some ⟨gl, 0, none⟩) 3 cl) 3 ((bls.set i NB).map Nm.txt) ∧ Nm.Rd wx (.slice (some ⟨gb, 0, none⟩) 3 cb) bls) := fun wx hx => by
        have hs := HB.out.size
        have h1 : Below WI.heap.size WI (W5.setCell ⟨gl, i, none⟩ (.string f4)) := hb5.setCell (p := ⟨gl, i, none⟩) hglb _
        have h2 : Below WI.heap.size WI wx := h1.trans (hx.mono h1.size)
        refine ⟨HB.out.trans (h2.mono hs), ?_, HRD.out.below h2⟩
        have ho6 := own_txt_set ho5 i NB
        rw [← HF4.out] at ho6
        exact own_keptB ho6 hx
      have HRES2 := Hid.mk' (HRES.out ((W5.setCell ⟨gl, i, none⟩ (.string f4)).alloc (.cells #[.int .u8 (y1 : Int)] 5)).drew ((Below.refl _ _).alloc (Nat.le_refl _) _).drew)
      clear HRES
      have hcl3I : (3 : Int) ≤ (cl : Int) := by omega
      have HSM : Hid (Sml (bls.set i NB)) := bls_sml.set i NB hNBl
      have hkw : (k : Int) + 1 ≤ 300 := by omega
      have hwr : IntKind.i64.wrap ((k : Int) + 1) = (k : Int) + 1 := by rw [IntKind.wrap_i64]; omega
      clear hy hNB hNBl hy0 hy1 hf1 hf3 hfy hf2 hf4 hrdy ho5 hb5 hba C1 hcg hk'
      go_wp2_with fail
      go_cut [] from 31 to 78 (fun wr => Hid (Below w.heap.size w wr ∧ wr.ownsRow WI.heap.size 9 1 (.slice (some ⟨gl, 0, none⟩) 3 cl) 3 ((bls.set i NB).map Nm.txt) ∧ Nm.Rd wr (.slice (some ⟨gb, 0, none⟩) 3 cb) bls))
      case first =>
        first | go_region_with (fail) | fail
        all_goals (go_wp2_with fail; go_meet; exact HRES2)
      case rest =>
      rename World => W6
      obtain ⟨hB6, hO6, hR6⟩ := hcut.out
      have HB6 := Hid.mk' hB6
      have HR6 := Hid.mk' hR6
      have HL6 : Hid (Nm.Rd W6 (.slice (some ⟨gl, 0, none⟩) 3 cl) (bls.set i NB)) := Nm.rd_own (base := WI.heap.size) (by rw [List.length_set, bls_len]; exact hO6)
      have C2 := Hid.mk' (scans_sml 9 (bls.set i NB) _ k W6 (by decide) HL6.out HSM.out (by omega))
      clear hB6 hO6 hR6 hcut
      go_wp2_with fail
      refine C2.out.mono ?_
      rintro e W7 ⟨rfl, hb7⟩
      have C3 := Hid.mk' (scans_sml 8 (bls.set i NB) _ k W7 (by decide) (HL6.out.below hb7) HSM.out (by omega))
      have HB7 := Hid.mk' hb7
      clear C2 hb7
      go_wp2_with fail
      refine C3.out.mono ?_
      rintro e W8 ⟨rfl, hb8⟩
      have hb68 := HB7.out.trans (hb8.mono HB7.out.size)
      have HB8 := Hid.mk' (HB6.out.trans (hb68.mono HB6.out.size))
      have HR8 := Hid.mk' (HR6.out.below hb68)
      clear C3 hb8 hb68
      go_wp2_with fail
      go_roundw
      case rel => exact ⟨k + 1, by omega, by go_num, HB8, HR8⟩
      case measure => simp [intOf]; omega
    · have hkE : k = f.size := by omega
      subst hkE
      have hnl : ¬ (f.size : Int) < (f.size : Int) := by omega
      by_cases hi1 : i = 1
      · obtain ⟨b1, b2, hb1, hb2, h9, hb2l⟩ := bls_one
        obtain rfl : b = b1 := by
          have := HBI.out
          rw [hi1, hb1] at this
          exact (Option.some.inj this).symm
        have hi1I : ((i : Int) == 1) = true := by rw [hi1]; rfl
        clear hi1
        have hb2s : b2.length ≤ 256 := bls_short b2 (List.mem_of_getElem? hb2)
        have C4 := Hid.mk' (copyT_any _ bls WI HRD.out (by rw [bls_len]; omega))
        rw [bls_len] at C4
        go_wp2_with fail
        refine C4.out.mono ?_
        rintro e W5 ⟨v5, rfl, ho5, hb5⟩
        obtain ⟨gm, cm, rfl, hcm3, _, hgmb, hgml⟩ := own_posB ho5 (by decide)
        have hcm3I : (3 : Int) ≤ (cm : Int) := by omega
        have hm1 := own_txt ho5 1 b hb1
        rw [HF.out] at hm1
        obtain ⟨f2, hf2⟩ : ∃ x, tx b2 = x := ⟨_, rfl⟩
        have hm2 := own_txt ho5 2 b2 hb2
        rw [hf2] at hm2
        have hf2s : f2.size = b2.length := by rw [← hf2]; rfl
        obtain ⟨q, hq⟩ : ∃ q : Nat, b.length - 9 = q := ⟨_, rfl⟩
        have hqs : q ≤ b.length := by omega
        have hqI : (f.size : Int) - 9 = (q : Int) := by rw [HFS.out]; omega
        have hwr : IntKind.i64.wrap ((f.size : Int) - 9) = (q : Int) := by rw [hqI, IntKind.wrap_i64]; omega
        obtain ⟨g0, hg0⟩ : ∃ x, tx (b.take q) = x := ⟨_, rfl⟩
        obtain ⟨g1, hg1⟩ : ∃ x, tx (b.drop q) = x := ⟨_, rfl⟩
        obtain ⟨g2, hg2⟩ : ∃ x, tx (b2.drop 1) = x := ⟨_, rfl⟩
        have hE0 : f.extract 0 q = g0 := by rw [← HF.out, ← hg0]; exact tx_take b q
        have hE1 : f.extract q f.size = g1 := by rw [← HF.out, ← hg1]; exact tx_drop b q
        have hE2 : f2.extract 1 f2.size = g2 := by rw [← hf2, ← hg2]; exact tx_drop b2 1
        have hs0 : ∀ wx, (Instr.slice 9 (.string f) none (some (.int .i64 (q : Int))) none).run Tryd.prog wx = .ok (.string g0) wx := fun wx => by
          have := cutS_to b q (by omega) wx
          rw [HF.out, hg0] at this
          exact this
        have hs1 : ∀ wx, (Instr.slice 9 (.string f) (some (.int .i64 (q : Int))) none none).run Tryd.prog wx = .ok (.string g1) wx := fun wx => by
          have := cutS_from b q (by omega) wx
          rw [HF.out, hg1] at this
          exact this
        have hs2 : ∀ wx, (Instr.slice 9 (.string f2) (some (.int .i64 1)) none none).run Tryd.prog wx = .ok (.string g2) wx := fun wx => by
          have := cutS_from b2 1 (by omega) wx
          rw [hf2, hg2] at this
          exact this
        have zg1 : g1.size ≤ 256 := by
          rw [← hg1]
          show (b.drop q).length ≤ 256
          rw [List.length_drop]
          omega
        have zg2 : g2.size ≤ 256 := by
          rw [← hg2]
          show (b2.drop 1).length ≤ 256
          rw [List.length_drop]
          omega
        obtain ⟨g3, hg3⟩ : ∃ x, (⟨#[99]⟩ : ByteArray) ++ g1 = x := ⟨_, rfl⟩
        obtain ⟨g4, hg4⟩ : ∃ x, g3 ++ g2 = x := ⟨_, rfl⟩
        have z99 : (⟨#[99]⟩ : ByteArray).size = 1 := rfl
        have zg3 : g3.size ≤ 300 := by
          rw [← hg3, ByteArray.size_append]
          omega
        obtain ⟨N2, hN2⟩ : ∃ x, [99] ++ b.drop q ++ b2.drop 1 = x := ⟨_, rfl⟩
        have hN2l : N2.length ≤ 1000 := by
          rw [← hN2, List.length_append, List.length_append, List.length_drop, List.length_drop]
          simp
          omega
        have HG4 : Hid (g4 = tx N2) := by
          show _ = _
          rw [← hg4, ← hg3, ← hg1, ← hg2, ← hN2, ← Pr.tx_app, ← Pr.tx_app]
        have hadA : ∀ wx, (Op.stringOp .add ⟨#[99]⟩ g1).run Tryd.prog wx = .ok (.string g3) wx := fun wx => by
          rw [← hg3]
          have hsz : (⟨#[99]⟩ : ByteArray).size + g1.size ≤ 9223372036854775807 := by omega
          simp [go_sem, hsz]
          try omega
        have hadB : ∀ wx, (Op.stringOp .add g3 g2).run Tryd.prog wx = .ok (.string g4) wx := fun wx => by
          rw [← hg4]
          have hsz : g3.size + g2.size ≤ 9223372036854775807 := by omega
          simp [go_sem, hsz]
        have hfr2 := own_free ho5 2
        have HM : Hid (Below WI.heap.size WI (W5.setCell ⟨gm, 2, none⟩ (.string g4)).drew ∧ (W5.setCell ⟨gm, 2, none⟩ (.string g4)).drew.ownsRow WI.heap.size 9 1 (.slice (some ⟨gm, 0, none⟩) 3 cm) 3 ((bls.set 2 N2).map Nm.txt)) := by
          show _ ∧ _
          refine ⟨(hb5.setCell (p := ⟨gm, 2, none⟩) hgmb _).drew, ?_⟩
          have h2 := own_txt_set ho5 2 N2
          rw [← HG4.out] at h2
          exact own_keptB h2 (Below.refl _ _).drew
        have HSN : Hid (Sml ((bls.set 2 N2).set 1 (b.take q))) := (bls_sml.set 2 N2 hN2l).set 1 _ (by rw [List.length_take]; omega)
        have hq0 : (0 : Int) ≤ (q : Int) := by omega
        have hqf : (q : Int) ≤ (f.size : Int) := by omega
        have h1f : (1 : Int) ≤ (f2.size : Int) := by omega
        have HG0 : Hid (g0 = tx (b.take q)) := hg0.symm
        have HB1' := Hid.mk' hb1
        clear ho5 hb5 C4 hg1 hg2 hg3 hg4 hN2 hN2l hf2 hq hb1 hb2 hg0
        go_wp2_with fail
        go_cut [] from 25 to 149 (fun wr => Hid (Below WI.heap.size WI wr ∧ wr.ownsRow WI.heap.size 9 1 (.slice (some ⟨gm, 0, none⟩) 3 cm) 3 ((bls.set 2 N2).map Nm.txt)))
        case first =>
          first | go_region_with (fail) | fail
          all_goals (go_wp2_with fail; go_meet; exact HM)
        case rest =>
        rename World => W6
        clear hm1 hm2 hfr2 HM
        obtain ⟨hB6, hO6⟩ := hcut.out
        have hc1 := own_txt hO6 1 b (by rw [List.getElem?_set_ne (by decide)]; exact HB1'.out)
        rw [HF.out] at hc1
        have hfr1 := own_free hO6 1
        have hbY := hB6.setCell (p := ⟨gm, 1, none⟩) hgmb (.string g0)
        have hoY := own_txt_set hO6 1 (b.take q)
        rw [← HG0.out] at hoY
        obtain ⟨WY, hWY⟩ : ∃ x, W6.setCell ⟨gm, 1, none⟩ (.string g0) = x := ⟨_, rfl⟩
        rw [hWY] at hbY hoY
        have HBY := Hid.mk' (HB.out.trans (hbY.mono HB.out.size))
        have HRY := Hid.mk' (HRD.out.below hbY)
        have HLY : Hid (Nm.Rd WY (.slice (some ⟨gm, 0, none⟩) 3 cm) ((bls.set 2 N2).set 1 (b.take q))) := Nm.rd_own (base := WI.heap.size) (by rw [List.length_set, List.length_set, bls_len]; exact hoY)
        have CS := Hid.mk' (scans_sml 9 ((bls.set 2 N2).set 1 (b.take q)) _ 3 WY (by decide) HLY.out HSN.out (by omega))
        clear hB6 hO6 hcut hbY hoY
        go_wp2_with fail
        try rw [hWY]
        refine CS.out.mono ?_
        rintro e W7 ⟨rfl, hb7⟩
        have CA := Hid.mk' (again_sml 9 ((bls.set 2 N2).set 1 (b.take q)) _ W7 (by decide) (HLY.out.below hb7) HSN.out)
        have HB7 := Hid.mk' hb7
        clear CS hb7 hWY hc1 hfr1
        go_wp2_with fail
        refine CA.out.mono ?_
        rintro e WT ⟨rfl, hb8⟩
        have hbT := HB7.out.trans (hb8.mono HB7.out.size)
        have HBT := Hid.mk' (HBY.out.trans (hbT.mono HBY.out.size))
        have HRT := Hid.mk' (HRY.out.below hbT)
        clear CA hb8 hbT HLY HSN HBY HRY HB7 hE0 hE1 hE2 hs0 hs1 hs2 hadA hadB hwr hqI
        have C5 := Hid.mk' (copyT_any _ bls WT HRT.out (by rw [bls_len]; omega))
        rw [bls_len] at C5
        go_wp2_with fail
        refine C5.out.mono ?_
        rintro e W9 ⟨v9, rfl, ho9, hb9⟩
        obtain ⟨gx, cx, rfl, hcx3, _, hgxb, hgxl⟩ := own_posB ho9 (by decide)
        have hcx3I : (3 : Int) ≤ (cx : Int) := by omega
        obtain ⟨fx, hfx⟩ : ∃ x, f ++ ⟨#[120]⟩ = x := ⟨_, rfl⟩
        have HFX : Hid (fx = tx (b ++ [120])) := by
          show _ = _
          rw [← hfx, ← HF.out, ← Pr.tx_app]
        have hadx : ∀ wx, (Op.stringOp .add f ⟨#[120]⟩).run Tryd.prog wx = .ok (.string fx) wx := fun wx => by
          rw [← hfx]
          have hsz : f.size + (⟨#[120]⟩ : ByteArray).size ≤ 9223372036854775807 := by
            have : (⟨#[120]⟩ : ByteArray).size = 1 := rfl
            omega
          simp [go_sem, hsz]
          try omega
        have hcx := own_txt ho9 i b HBI.out
        rw [HF.out] at hcx
        have hfrx := own_free ho9 i
        have hbX : Below WT.heap.size WT (W9.setCell ⟨gx, i, none⟩ (.string fx)) := hb9.setCell (p := ⟨gx, i, none⟩) hgxb _
        have hbXw := HBT.out.trans (hbX.mono HBT.out.size)
        have hoX := own_txt_set ho9 i (b ++ [120])
        rw [← HFX.out] at hoX
        obtain ⟨WX, hWX⟩ : ∃ x, W9.setCell ⟨gx, i, none⟩ (.string fx) = x := ⟨_, rfl⟩
        rw [hWX] at hbX hbXw hoX
        have HBX := Hid.mk' hbXw
        have HRX := Hid.mk' (HRT.out.below hbX)
        have HSX : Hid (Sml (bls.set i (b ++ [120]))) := bls_sml.set i _ (by rw [List.length_append]; simp; omega)
        have C6 := Hid.mk' (scans_sml 9 (bls.set i (b ++ [120])) (.slice (some ⟨gx, 0, none⟩) 3 cx) 0 WX (by decide) (Nm.rd_own (base := WT.heap.size) (by rw [List.length_set, bls_len]; exact hoX)) HSX.out (by omega))
        have hst := fun wx => slice_toT (some ⟨gb, 0, none⟩) 3 cb i (by omega) wx
        have hsf := fun wx => slice_fromT (some ⟨gb, 0, none⟩) 3 cb i (by omega) hcb wx
        obtain ⟨ag, hag⟩ : ∃ x, further (some ⟨gb, 0, none⟩) cb i = x := ⟨_, rfl⟩
        obtain ⟨ng, hng⟩ : ∃ x, 3 - i = x := ⟨_, rfl⟩
        obtain ⟨cg, hcg'⟩ : ∃ x, cb - i = x := ⟨_, rfl⟩
        rw [hag, hng, hcg'] at hsf
        have HPA : Hid (∀ wx, Nm.Rd wx (.slice (some ⟨gb, 0, none⟩) 3 cb) bls → Nm.Rd wx (.slice (some ⟨gb, 0, none⟩) i cb) (bls.take i) ∧ Sml (bls.take i)) := fun wx h => ⟨rd_takeT bls_len h i (by omega), by rw [List.length_take, bls_len]; omega, fun t ht => bls_sml.2 t (List.mem_of_mem_take ht)⟩
        have HPB : Hid (∀ wx, Nm.Rd wx (.slice (some ⟨gb, 0, none⟩) 3 cb) bls → Nm.Rd wx (.slice ag ng cg) ((bls.drop i).take (3 - i)) ∧ Sml ((bls.drop i).take (3 - i))) := fun wx h => by
          have := bls_part h i 3 (by omega) (by omega)
          rw [hag, hcg'] at this
          rw [← hng]
          exact this
        clear ho9 hb9 hbX hbXw hoX C5 hag hng hcg' hfx
        go_wp2_with fail
        try rw [hWX]
        refine C6.out.mono ?_
        rintro e WA ⟨rfl, hbA⟩
        have HRA := Hid.mk' (HRX.out.below hbA)
        have HBA := Hid.mk' (HBX.out.trans (hbA.mono HBX.out.size))
        have C7 := Hid.mk' (scans_sml 9 (bls.take i) (.slice (some ⟨gb, 0, none⟩) i cb) 1 WA (by decide) (HPA.out _ HRA.out).1 (HPA.out _ HRA.out).2 (by omega))
        clear hcx hfrx hWX C6 hbA HRX HBX
        go_wp2_with fail
        refine C7.out.mono ?_
        rintro e WB ⟨rfl, hbB⟩
        have HRB := Hid.mk' (HRA.out.below hbB)
        have HBB := Hid.mk' (HBA.out.trans (hbB.mono HBA.out.size))
        have C8 := Hid.mk' (scans_sml 9 _ (.slice ag ng cg) 1 WB (by decide) (HPB.out _ HRB.out).1 (HPB.out _ HRB.out).2 (by omega))
        clear C7 hbB HRA HBA
        go_wp2_with fail
        refine C8.out.mono ?_
        rintro e WC ⟨rfl, hbC⟩
        have HRC := Hid.mk' (HRB.out.below hbC)
        have HBC := Hid.mk' (HBB.out.trans (hbC.mono HBB.out.size))
        have C9 := Hid.mk' (again_sml 9 _ (.slice ag ng cg) WC (by decide) (HPB.out _ HRC.out).1 (HPB.out _ HRC.out).2)
        clear C8 hbC HRB HBB
        go_wp2_with fail
        refine C9.out.mono ?_
        rintro e WD ⟨rfl, hbD⟩
        have HRD' := Hid.mk' (HRC.out.below hbD)
        have HBD := Hid.mk' (HBC.out.trans (hbD.mono HBC.out.size))
        clear C9 hbD HRC HBC
        go_wp2_with fail
        go_roundw
        case rel => exact ⟨i + 1, by omega, by go_num, HBD, HRD'⟩
        case measure => simp [intOf]; omega
      · have hi1I : ((i : Int) == 1) = false := by
          have : (i : Int) ≠ 1 := by omega
          simpa using this
        have C5 := Hid.mk' (copyT_any _ bls WI HRD.out (by rw [bls_len]; omega))
        rw [bls_len] at C5
        go_wp2_with fail
        refine C5.out.mono ?_
        rintro e W9 ⟨v9, rfl, ho9, hb9⟩
        obtain ⟨gx, cx, rfl, hcx3, _, hgxb, hgxl⟩ := own_posB ho9 (by decide)
        have hcx3I : (3 : Int) ≤ (cx : Int) := by omega
        obtain ⟨fx, hfx⟩ : ∃ x, f ++ ⟨#[120]⟩ = x := ⟨_, rfl⟩
        have HFX : Hid (fx = tx (b ++ [120])) := by
          show _ = _
          rw [← hfx, ← HF.out, ← Pr.tx_app]
        have hadx : ∀ wx, (Op.stringOp .add f ⟨#[120]⟩).run Tryd.prog wx = .ok (.string fx) wx := fun wx => by
          rw [← hfx]
          have hsz : f.size + (⟨#[120]⟩ : ByteArray).size ≤ 9223372036854775807 := by
            have : (⟨#[120]⟩ : ByteArray).size = 1 := rfl
            omega
          simp [go_sem, hsz]
          try omega
        have hcx := own_txt ho9 i b HBI.out
        rw [HF.out] at hcx
        have hfrx := own_free ho9 i
        have hbX : Below WI.heap.size WI (W9.setCell ⟨gx, i, none⟩ (.string fx)) := hb9.setCell (p := ⟨gx, i, none⟩) hgxb _
        have hbXw := HB.out.trans (hbX.mono HB.out.size)
        have hoX := own_txt_set ho9 i (b ++ [120])
        rw [← HFX.out] at hoX
        obtain ⟨WX, hWX⟩ : ∃ x, W9.setCell ⟨gx, i, none⟩ (.string fx) = x := ⟨_, rfl⟩
        rw [hWX] at hbX hbXw hoX
        have HBX := Hid.mk' hbXw
        have HRX := Hid.mk' (HRD.out.below hbX)
        have HSX : Hid (Sml (bls.set i (b ++ [120]))) := bls_sml.set i _ (by rw [List.length_append]; simp; omega)
        have C6 := Hid.mk' (scans_sml 9 (bls.set i (b ++ [120])) (.slice (some ⟨gx, 0, none⟩) 3 cx) 0 WX (by decide) (Nm.rd_own (base := WI.heap.size) (by rw [List.length_set, bls_len]; exact hoX)) HSX.out (by omega))
        have hst := fun wx => slice_toT (some ⟨gb, 0, none⟩) 3 cb i (by omega) wx
        have hsf := fun wx => slice_fromT (some ⟨gb, 0, none⟩) 3 cb i (by omega) hcb wx
        obtain ⟨ag, hag⟩ : ∃ x, further (some ⟨gb, 0, none⟩) cb i = x := ⟨_, rfl⟩
        obtain ⟨ng, hng⟩ : ∃ x, 3 - i = x := ⟨_, rfl⟩
        obtain ⟨cg, hcg'⟩ : ∃ x, cb - i = x := ⟨_, rfl⟩
        rw [hag, hng, hcg'] at hsf
        have HPA : Hid (∀ wx, Nm.Rd wx (.slice (some ⟨gb, 0, none⟩) 3 cb) bls → Nm.Rd wx (.slice (some ⟨gb, 0, none⟩) i cb) (bls.take i) ∧ Sml (bls.take i)) := fun wx h => ⟨rd_takeT bls_len h i (by omega), by rw [List.length_take, bls_len]; omega, fun t ht => bls_sml.2 t (List.mem_of_mem_take ht)⟩
        have HPB : Hid (∀ wx, Nm.Rd wx (.slice (some ⟨gb, 0, none⟩) 3 cb) bls → Nm.Rd wx (.slice ag ng cg) ((bls.drop i).take (3 - i)) ∧ Sml ((bls.drop i).take (3 - i))) := fun wx h => by
          have := bls_part h i 3 (by omega) (by omega)
          rw [hag, hcg'] at this
          rw [← hng]
          exact this
        clear ho9 hb9 hbX hbXw hoX C5 hag hng hcg' hfx
        go_wp2_with fail
        try rw [hWX]
        refine C6.out.mono ?_
        rintro e WA ⟨rfl, hbA⟩
        have HRA := Hid.mk' (HRX.out.below hbA)
        have HBA := Hid.mk' (HBX.out.trans (hbA.mono HBX.out.size))
        have C7 := Hid.mk' (scans_sml 9 (bls.take i) (.slice (some ⟨gb, 0, none⟩) i cb) 1 WA (by decide) (HPA.out _ HRA.out).1 (HPA.out _ HRA.out).2 (by omega))
        clear hcx hfrx hWX C6 hbA HRX HBX
        go_wp2_with fail
        refine C7.out.mono ?_
        rintro e WB ⟨rfl, hbB⟩
        have HRB := Hid.mk' (HRA.out.below hbB)
        have HBB := Hid.mk' (HBA.out.trans (hbB.mono HBA.out.size))
        have C8 := Hid.mk' (scans_sml 9 _ (.slice ag ng cg) 1 WB (by decide) (HPB.out _ HRB.out).1 (HPB.out _ HRB.out).2 (by omega))
        clear C7 hbB HRA HBA
        go_wp2_with fail
        refine C8.out.mono ?_
        rintro e WC ⟨rfl, hbC⟩
        have HRC := Hid.mk' (HRB.out.below hbC)
        have HBC := Hid.mk' (HBB.out.trans (hbC.mono HBB.out.size))
        have C9 := Hid.mk' (again_sml 9 _ (.slice ag ng cg) WC (by decide) (HPB.out _ HRC.out).1 (HPB.out _ HRC.out).2)
        clear C8 hbC HRB HBB
        go_wp2_with fail
        refine C9.out.mono ?_
        rintro e WD ⟨rfl, hbD⟩
        have HRD' := Hid.mk' (HRC.out.below hbD)
        have HBD := Hid.mk' (HBC.out.trans (hbD.mono HBC.out.size))
        clear C9 hbD HRC HBC
        go_wp2_with fail
        go_roundw
        case rel => exact ⟨i + 1, by omega, by go_num, HBD, HRD'⟩
        case measure => simp [intOf]; omega
  · obtain rfl : i = 3 := by omega
    go_wp2
    go_ret
    exact ⟨rfl, HB.out⟩
end Rc
end Go.Proofs.YtjnodkjeiogloaaDoor
