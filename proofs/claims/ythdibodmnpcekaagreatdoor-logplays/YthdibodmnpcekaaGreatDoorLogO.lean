import Derived.Test.YthdibodmnpcekaaGreatDoorLogM
import Derived.Test.YthdibodmnpcekaaGreatDoorPrgW
/- The program's Open. -/
namespace Go.Proofs.YthdibodmnpcekaaGreatDoor
set_option linter.ambiguousOpen false
open Go.RowKit
namespace Lo
open Sm Ft Dk
set_option linter.unusedSimpArgs false
set_option linter.unusedVariables false

theorem info_str : (Tryz.prog.info? 9).map (fun i => (i.zero, i.size, i.bytes)) = some (some (.string ⟨#[]⟩), 1, 16) := by kernel_rfl

theorem make_str (k : Nat) (hk : k ≤ 4096) (W : World) : ∃ o, (Instr.makeSlice 63 (.int .i64 (k : Int)) (.int .i64 (k : Int))).run Tryz.prog W = .ok (.slice (some ⟨W.heap.size, 0, none⟩) k k) (W.alloc o) ∧ (W.alloc o).ownsRow W.heap.size 9 1 (.slice (some ⟨W.heap.size, 0, none⟩) k k) k (List.replicate k (.string ⟨#[]⟩)) := by
  obtain ⟨i0, ji, hz0, hz1, hz2⟩ := info_parts info_str
  have h := run_make (P := Tryz.prog) W 63 9 i0 _ Tryz.underlying63 ji hz0 .i64 .i64 (k : Int) (k : Int) (by omega) (by omega) (by rw [hz2]; omega) (by omega)
  rw [hz1, Int.toNat_natCast] at h
  refine ⟨_, h, ?_⟩
  have hl : (madeCells (Value.string ⟨#[]⟩).cells (k * 1)).toList = List.replicate k (.string ⟨#[]⟩) := by
    rw [Nat.mul_one]
    exact toList_madeCells_one _ _
  have hs : (madeCells (Value.string ⟨#[]⟩).cells (k * 1)).size = k := by
    rw [← Array.length_toList, hl, List.length_replicate]
  refine ⟨?_, .inr ⟨W.heap.size, k, _, rfl, Nat.le_refl _, heap_alloc_new _ _, Nat.le_refl _, by unfold maxLen; omega, ?_, ?_⟩⟩
  · simp
  · rw [hs, Nat.mul_one]
  · rw [hl]
    simp

/-- The row of the texts that were read, and what is left of it. -/
def rowK (d : Dsk) (a : Int) (n k : Nat) : List Value := (texts d a k).map Nm.txt ++ List.replicate (n - k) (.string ⟨#[]⟩)

theorem rowK_set (d : Dsk) (a : Int) (n k : Nat) (h : k < n) : (rowK d a n k).set k (.string (tx (rdT d (a + (k : Int))))) = rowK d a n (k + 1) := by
  unfold rowK
  rw [List.set_append_right _ _ (by rw [List.length_map, texts_len]; omega), List.length_map, texts_len, Nat.sub_self, texts_succ, List.map_append, List.append_assoc, show n - k = (n - (k + 1)) + 1 by omega, List.replicate_succ, List.set_cons_zero]
  rfl

/-- What Open tells. -/
structure Told (w w' : World) (B q p : Nat) (l : Lg) (r : Value) (vs : List Value) (ps : List (List UInt8)) : Prop where
  pl : Pl w' q p l
  out : w'.ownsRow B 46 1 r vs.length vs
  rows : Rc.Rows w' B vs ps
  sep : ∀ v ∈ vs, Nm.Sep r v
  lo : w.heap.size ≤ q
  hi : q < B
  mle : B ≤ w'.heap.size
  bel : Below w.heap.size w w'

set_option maxRecDepth 100000 in
theorem open_no {Rep : World → Nat → (Nat → Prop) → Dsk → Prop} (H : Says Rep) (w : World) (p : Nat) (F : Nat → Prop) (d : Dsk) (a n : Int) (ep : Nat) (hR : Rep w p F d) (hd : 1 ≤ d.n ∧ d.n ≤ 4096) (ha : a ≤ 9223372036854775807) (hm : may d a n = false) :
    Calls Tryz.prog 9 #[ptr p, nu a, nu n, .int .u32 (ep : Int)] w fun e w' => e = .returned (.tuple #[.pointer none, .slice none 0 0, noE 1]) ∧ Below w.heap.size w w' := by
  have c1 := Hid.mk' (new_no H w p F d a n ep hR hd ha hm)
  clear H hR hm
  go_enter Tryz.func9, Tryz.ntmps9
  go_wp2_with fail
  refine c1.out.mono ?_
  rintro e w1 ⟨rfl, hb⟩
  have HB := Hid.mk' hb
  clear hb c1
  go_wp2
  go_ret3
  exact ⟨rfl, HB.out⟩

set_option maxRecDepth 100000 in
set_option maxHeartbeats 4000000 in
theorem open_yes {Rep : World → Nat → (Nat → Prop) → Dsk → Prop} (H : Says Rep) (SS : Rc.ScanC) (w : World) (p : Nat) (F : Nat → Prop) (d : Dsk) (a : Int) (n : Nat) (ep : Nat) (hR : Rep w p F d) (hd : 1 ≤ d.n ∧ d.n ≤ 4096) (ha : a ≤ 9223372036854775807) (hm : may d a (n : Int) = true) (hep : ep < 4294967296) (hs : Small d) (ht : d.tr.length ≤ 1000000) :
    Calls Tryz.prog 9 #[ptr p, nu a, nu (n : Int), .int .u32 (ep : Int)] w fun e w' => ∃ q r B vs, e = .returned (.tuple #[ptr q, r, .nilIface]) ∧ Told w w' B q p ⟨a, (n : Int), ep, (Rc.scan ep (texts d a n)).2.2, (Rc.scan ep (texts d a n)).1.length, false⟩ r vs (Rc.scan ep (texts d a n)).1 := by
  have c1 := Hid.mk' (new_yes H w p F d a (n : Int) ep hR hd ha hm)
  have hmm : 0 ≤ a ∧ 1 ≤ (n : Int) ∧ (n : Int) ≤ d.n - a := of_decide_eq_true hm
  have HH := Hid.mk' H
  have HR := Hid.mk' hR
  have HSm := Hid.mk' hs
  obtain ⟨T, hT⟩ : ∃ T, texts d a n = T := ⟨_, rfl⟩
  have HT := Hid.mk' hT
  obtain ⟨S, hS⟩ : ∃ S, Rc.scan ep T = S := ⟨_, rfl⟩
  rw [hT, hS]
  have hrec : S.1.length ≤ n ∧ S.2.2 ≤ n := by
    have h1 := (Rc.scan_again ep T).1
    have h2 := (Rc.scan_recs ep T).1
    have h3 := Rc.recs_len ep T
    rw [hS] at h1 h2
    rw [← hT, texts_len] at h1 h3
    rw [hT] at h3
    omega
  have cS : Hid (∀ wx v, Nm.Rd wx v T → Calls Tryz.prog 17 #[.int .u32 (ep : Int), v] wx fun e w' => ∃ r vs, e = .returned (.tuple #[r, nu (S.2.2 : Int)]) ∧ w'.ownsRow wx.heap.size 46 1 r vs.length vs ∧ Rc.Rows w' wx.heap.size vs S.1 ∧ (∀ v ∈ vs, Nm.Sep r v) ∧ Below wx.heap.size wx w') := fun wx v hv => by
    have := SS wx ep v T hep hv (by rw [← hT, texts_len]; omega) (fun t ht => by
      rw [← hT] at ht
      have := texts_small hs a n t ht
      omega)
    rw [hS] at this
    exact this
  clear H hR hm hs hT hS
  go_enter Tryz.func9, Tryz.ntmps9
  go_wp2_with fail
  refine c1.out.mono ?_
  rintro e w1 ⟨q, rfl, hP, hlo, hb⟩
  obtain ⟨o, hmk, hrow⟩ := make_str n (by omega) w1
  have HB1 := Hid.mk' hb
  have HP1 := Hid.mk' hP
  have HLO := Hid.mk' hlo
  have HRW : Hid ((w1.alloc o).ownsRow w1.heap.size 9 1 (.slice (some ⟨w1.heap.size, 0, none⟩) n n) n (rowK d a n 0)) := hrow
  have HB2 : Hid (Below w1.heap.size w1 (w1.alloc o)) := (Below.refl _ _).alloc (Nat.le_refl _) o
  clear hb hP hlo hrow c1
  generalize w1.alloc o = w2 at *
  go_wp2
  clear hmk
  go_loopw [12, 14, 32] (fun _ _ iv wr => ∃ k : Nat, k ≤ n ∧ iv = nu (k : Int) ∧ Hid (wr.ownsRow w1.heap.size 9 1 (.slice (some ⟨w1.heap.size, 0, none⟩) n n) n (rowK d a n k)) ∧ Hid (Below w1.heap.size w1 wr)) (fun _ _ iv _ => n - (intOf iv).toNat)
  case atStart => exact ⟨0, Nat.zero_le _, rfl, HRW, HB2⟩
  case round =>
    obtain ⟨k, hk, rfl, hRw, hBw⟩ := hrel
    by_cases hkn : k < n
    · have C : Hid (Calls Tryz.prog 16 #[ptr p, nu (a + (k : Int))] wr fun e w' => e = .returned (.tuple #[.string (tx (rdT d (a + (k : Int)))), .nilIface]) ∧ Below wr.heap.size wr w') := by
        have hRr : Rep wr p F d := HH.out.keep (HH.out.keep HR.out (Keep.of_below (F := fun _ => False) HB1.out) (fun _ _ h => h)) (Keep.of_below (F := fun _ => False) hBw.out) (fun _ _ h => h)
        have := HH.out.read wr p F d (a + (k : Int)) hRr ht (by omega)
        rw [show rdN d (a + (k : Int)) = 0 by unfold rdN; rw [if_pos (by omega)]] at this
        exact this
      have hset := Hid.mk' (rowK_set d a n k hkn)
      have hkI : (k : Int) < (n : Int) := by omega
      have hk0 : (0 : Int) ≤ (k : Int) := by omega
      have hak : a + (k : Int) ≤ 4096 := by omega
      generalize tx (rdT d (a + (k : Int))) = f at *
      go_wp2_with fail
      refine C.out.mono ?_
      rintro e w3 ⟨rfl, hb3⟩
      have ho3 := ownB hRw.out hb3
      have hfz := own_free ho3 k
      have hw3 : ∃ u, w3.cell? ⟨w1.heap.size, k, none⟩ = some u := by
        have hlen : k < (rowK d a n k).length := by
          unfold rowK
          rw [List.length_append, List.length_map, texts_len, List.length_replicate]
          omega
        exact ⟨_, row_atB ho3 k hkn hlen⟩
      obtain ⟨u0, hu0⟩ := hw3
      have hfin : Hid ((w3.setCell ⟨w1.heap.size, k, none⟩ (.string f)).ownsRow w1.heap.size 9 1 (.slice (some ⟨w1.heap.size, 0, none⟩) n n) n (rowK d a n (k + 1))) := by
        have := own_set ho3 k (.string f)
        rw [hset.out] at this
        exact this
      have hbel : Hid (Below w1.heap.size w1 (w3.setCell ⟨w1.heap.size, k, none⟩ (.string f))) := (hBw.out.trans (hb3.mono hBw.out.size)).setCell (p := ⟨w1.heap.size, k, none⟩) (Nat.le_refl _) _
      clear C hb3 ho3 hRw
      go_wp2
      go_roundw
      case rel => exact ⟨k + 1, by omega, by go_num, hfin, hbel⟩
      case measure => simp [intOf]; omega
    · obtain rfl : k = n := by omega
      have hRd : Nm.Rd wr (.slice (some ⟨w1.heap.size, 0, none⟩) k k) T := by
        have h5 := hRw.out
        unfold rowK at h5
        rw [Nat.sub_self, List.replicate_zero, List.append_nil, HT.out] at h5
        have hl : T.length = k := by rw [← HT.out, texts_len]
        exact Nm.rd_own (by rw [hl]; exact h5)
      have C := Hid.mk' (cS.out wr _ hRd)
      clear hRd cS
      go_wp2_with fail
      refine C.out.mono ?_
      rintro e w3 ⟨r, vs, rfl, ho, hrw, hsp, hb3⟩
      have hlen := hrw.len
      obtain ⟨ar, cr, rfl, _⟩ := Nm.own_shape ho
      have hb13 : Below w1.heap.size w1 w3 := hBw.out.trans (hb3.mono hBw.out.size)
      have hP3 : Pl w3 q p ⟨a, (k : Int), ep, 0, 0, false⟩ := (hb13.block q HP1.out.lt).trans HP1.out
      obtain ⟨z0, z1, z2, z3, z4, z5, z6, zf⟩ := hP3.cells
      have hP4 : Pl (w3.setCell ⟨q, 4, none⟩ (nu (S.2.2 : Int))) q p ⟨a, (k : Int), ep, S.2.2, 0, false⟩ := heap_setCell_same _ q 4 _ _ _ hP3
      obtain ⟨y0, y1, y2, y3, y4, y5, y6, yf⟩ := hP4.cells
      have hP5 : Pl ((w3.setCell ⟨q, 4, none⟩ (nu (S.2.2 : Int))).setCell ⟨q, 5, none⟩ (nu (vs.length : Int))) q p ⟨a, (k : Int), ep, S.2.2, S.1.length, false⟩ := by
        rw [hlen]
        exact heap_setCell_same _ q 5 _ _ _ hP4
      have hK : Keep (fun k => k = q) w3 ((w3.setCell ⟨q, 4, none⟩ (nu (S.2.2 : Int))).setCell ⟨q, 5, none⟩ (nu (vs.length : Int))) := ((Keep.refl (fun k => k = q) w3).setCell (p := ⟨q, 4, none⟩) (.inl rfl) _).setCell (p := ⟨q, 5, none⟩) (.inl rfl) _
      have hqB : q < wr.heap.size := Nat.lt_of_lt_of_le HP1.out.lt hBw.out.size
      have HTo : Hid (Told w ((w3.setCell ⟨q, 4, none⟩ (nu (S.2.2 : Int))).setCell ⟨q, 5, none⟩ (nu (vs.length : Int))) wr.heap.size q p ⟨a, (k : Int), ep, S.2.2, S.1.length, false⟩ (.slice ar vs.length cr) vs S.1) := by
        refine ⟨hP5, hK.own ho (fun b hb e => ?_), ⟨hrw.len, fun j v x hj hx => hK.own (hrw.own j v x hj hx) (fun b hb e => ?_), hrw.apart⟩, hsp, HLO.out, hqB, Nat.le_trans hb3.size hK.size, ?_⟩
        · have := (ho.lt b hb).1
          omega
        · have := ((hrw.own j v x hj hx).lt b hb).1
          omega
        · have hb3w : Below w.heap.size w w3 := HB1.out.trans (hb13.mono HB1.out.size)
          exact (hb3w.setCell (p := ⟨q, 4, none⟩) HLO.out _).setCell (p := ⟨q, 5, none⟩) HLO.out _
      clear C ho hrw hsp hb3 hb13 hP3 hP4 hP5 hK hqB hlen
      go_wp2
      go_ret3
      exact ⟨q, _, _, _, rfl, HTo.out⟩
end Lo
end Go.Proofs.YthdibodmnpcekaaGreatDoor
