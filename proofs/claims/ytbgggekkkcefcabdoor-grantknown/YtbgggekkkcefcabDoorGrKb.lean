/- Layer 22: each error ahead of the next. -/
import Derived.Test.YtbgggekkkcefcabDoorGrKa
import Derived.Test.YtbgggekkkcefcabDoorGrZa
import Derived.Deep.RegionHeld3
import Derived.BigRegion
namespace Go.Proofs.YtbgggekkkcefcabDoor
set_option linter.ambiguousOpen false
open Go.RowKit
namespace Gr
set_option linter.unusedVariables false
set_option linter.unusedSimpArgs false

/-- What the laws say, of whatever input. -/
structure LawsC (w0 : World) : Prop where
  l : ∀ (wx : World) (r : Rq) (now births : Int) (full : Bool), Below w0.heap.size w0 wx → r.fit → Calls Tryd.prog 13 #[r.v, .agg #[nu now, nu births, .bool full]] wx fun e w' => e = .returned (.bool true) ∧ Below wx.heap.size wx w'
  c : ∀ (wx : World) (p : Sn) (r : Rq) (now births : Int) (full : Bool), Below w0.heap.size w0 wx → p.fit → r.fit → Calls Tryd.prog 14 #[p.v, r.v, .agg #[nu now, nu births, .bool full]] wx fun e w' => e = .returned (.bool true) ∧ Below wx.heap.size wx w'
  r : ∀ (wx : World) (p : Sn) (r : Rq) (now births : Int) (full : Bool), Below w0.heap.size w0 wx → p.fit → r.fit → Calls Tryd.prog 15 #[p.v, r.v, .agg #[nu now, nu births, .bool full]] wx fun e w' => e = .returned (.bool true) ∧ Below wx.heap.size wx w'
  o : ∀ (wx : World) (p : Sn) (r : Rq) (now births : Int) (full : Bool), Below w0.heap.size w0 wx → p.fit → r.fit → Calls Tryd.prog 16 #[p.v, r.v, .agg #[nu now, nu births, .bool full]] wx fun e w' => e = .returned (.bool true) ∧ Below wx.heap.size wx w'

@[reducible] def nmsA : Array Value := #[.string ⟨#[]⟩, .string ⟨#[97, 110, 110]⟩]
@[reducible] def lvsA : Array Value := #[.int .i64 (-1), .int .i64 0, .int .i64 1, .int .i64 2, .int .i64 3]
@[reducible] def lfsA : Array Value := #[.int .i64 0, .int .i64 1, .int .i64 300, .int .i64 301]
def nmsE (i : Nat) : ByteArray := if i = 0 then ⟨#[]⟩ else ⟨#[97, 110, 110]⟩
def lvsE (i : Nat) : Int := [-1, 0, 1, 2, 3].getD i 0
def lfsE (i : Nat) : Int := [0, 1, 300, 301].getD i 0

/-- The three lists lie there. -/
structure Kn3 (w0 : World) (nb lb vb : Nat) (w : World) : Prop where
  bel : Below w0.heap.size w0 w
  hn : w.heap[nb]? = some (.cells nmsA 9)
  hl : w.heap[lb]? = some (.cells lvsA 3)
  hv : w.heap[vb]? = some (.cells lfsA 3)

section
variable {w0 w w' : World} {nb lb vb : Nat}

theorem Kn3.below (h : Kn3 w0 nb lb vb w) (hb : Below w.heap.size w w') : Kn3 w0 nb lb vb w' :=
  ⟨h.bel.trans (hb.mono h.bel.size), (hb.block _ (Array.getElem?_eq_some_iff.1 h.hn).1).trans h.hn, (hb.block _ (Array.getElem?_eq_some_iff.1 h.hl).1).trans h.hl, (hb.block _ (Array.getElem?_eq_some_iff.1 h.hv).1).trans h.hv⟩

theorem Kn3.n (h : Kn3 w0 nb lb vb w) (i : Nat) (hi : i < 2) : w.cell? ⟨nb, i, none⟩ = some (.string (nmsE i)) := by
  rw [cell_of_row w nb i _ _ _ h.hn]
  match i, hi with
  | 0, _ => rfl
  | 1, _ => rfl

theorem Kn3.l (h : Kn3 w0 nb lb vb w) (i : Nat) (hi : i < 5) : w.cell? ⟨lb, i, none⟩ = some (nu (lvsE i)) := by
  rw [cell_of_row w lb i _ _ _ h.hl]
  match i, hi with
  | 0, _ => rfl
  | 1, _ => rfl
  | 2, _ => rfl
  | 3, _ => rfl
  | 4, _ => rfl

theorem Kn3.v (h : Kn3 w0 nb lb vb w) (i : Nat) (hi : i < 4) : w.cell? ⟨vb, i, none⟩ = some (nu (lfsE i)) := by
  rw [cell_of_row w vb i _ _ _ h.hv]
  match i, hi with
  | 0, _ => rfl
  | 1, _ => rfl
  | 2, _ => rfl
  | 3, _ => rfl
end

/-- What lies there when the laws are asked. -/
structure Kq (w0 : World) (nb lb vb gr gx gp : Nat) (R : Rq) (now births : Int) (full : Bool) (P : Sn) (w : World) : Prop where
  k : Kn3 w0 nb lb vb w
  hr : w.heap[gr]? = some (.cells R.arr 34)
  hx : w.heap[gx]? = some (.cells #[nu now, nu births, .bool full] 43)
  hp : w.heap[gp]? = some (.cells P.arr 28)

section
variable {w0 w w' : World} {nb lb vb gr gx gp : Nat} {R : Rq} {now births : Int} {full : Bool} {P : Sn}

theorem Kn3.new {o : Obj} (h : Kn3 w0 nb lb vb w) (hg : (w.alloc o).grownBy w' (some w.heap.size)) : Kn3 w0 nb lb vb w' :=
  ⟨new_below h.bel hg, new_far h.hn hg, new_far h.hl hg, new_far h.hv hg⟩

theorem Kq.below (h : Kq w0 nb lb vb gr gx gp R now births full P w) (hb : Below w.heap.size w w') : Kq w0 nb lb vb gr gx gp R now births full P w' :=
  ⟨h.k.below hb, (hb.block _ (Array.getElem?_eq_some_iff.1 h.hr).1).trans h.hr, (hb.block _ (Array.getElem?_eq_some_iff.1 h.hx).1).trans h.hx, (hb.block _ (Array.getElem?_eq_some_iff.1 h.hp).1).trans h.hp⟩

theorem Kq.x0 (h : Kq w0 nb lb vb gr gx gp R now births full P w) : w.cell? ⟨gx, 0, none⟩ = some (nu now) := by rw [cell_of_row w _ 0 _ _ _ h.hx]; rfl
theorem Kq.x1 (h : Kq w0 nb lb vb gr gx gp R now births full P w) : w.cell? ⟨gx, 1, none⟩ = some (nu births) := by rw [cell_of_row w _ 1 _ _ _ h.hx]; rfl
theorem Kq.x2 (h : Kq w0 nb lb vb gr gx gp R now births full P w) : w.cell? ⟨gx, 2, none⟩ = some (.bool full) := by rw [cell_of_row w _ 2 _ _ _ h.hx]; rfl
end

theorem nms_fit (i : Nat) : (nmsE i).size ≤ 281474976710656 := by unfold nmsE; split <;> decide
theorem lvs_fit : ∀ i, i < 5 → i64 (lvsE i) := by unfold i64; decide +kernel
theorem lfs_fit : ∀ i, i < 4 → i64 (lfsE i) := by unfold i64; decide +kernel

set_option maxRecDepth 100000 in
set_option maxHeartbeats 64000000 in
theorem knownOrder_yes (w : World) (hL : LawsC w) : Calls Tryd.prog 5 #[] w fun e w' => e = .returned (.bool true) ∧ Below w.heap.size w w' := by
  have HL := hidG hL
  obtain ⟨w3, hw3⟩ : ∃ w3, ((w.alloc (.cells nmsA 9)).alloc (.cells lvsA 3)).alloc (.cells lfsA 3) = w3 := ⟨_, rfl⟩
  have K0 : Hid (Kn3 w w.heap.size (w.heap.size + 1) (w.heap.size + 1 + 1) w3) := hidG (by
    rw [← hw3]
    exact ⟨three_below _ _ _ _, three_0 _ _ _ _, three_1 _ _ _ _, three_at _ _ _ _⟩)
  obtain ⟨nb, hnb⟩ : ∃ b, w.heap.size = b := ⟨_, rfl⟩
  obtain ⟨lb, hlb⟩ : ∃ b, nb + 1 = b := ⟨_, rfl⟩
  obtain ⟨vb, hvb⟩ : ∃ b, lb + 1 = b := ⟨_, rfl⟩
  rw [hnb, hlb, hvb] at K0
  have HW3 := hidG hw3
  have HNB := hidG hnb
  have HLB := hidG hlb
  have HVB := hidG hvb
  clear hw3 hL hnb hlb hvb
  go_enter Tryd.func5, Tryd.ntmps5
  go_upto_region 4 with fail
  rw [HW3.out, HNB.out, HLB.out, HVB.out]
  clear HW3 HLB HVB
  go_wp2
  go_loopw [4] (fun i wr => ∃ k : Nat, i = .int .i64 k ∧ k ≤ 2 ∧ Kn3 w nb lb vb wr) (fun i _ => 2 - (intOf i).toNat)
  case atStart => exact ⟨0, rfl, by omega, K0.out⟩
  case round =>
    obtain ⟨i, rfl, hi, hk⟩ := hrel
    have K1 := hidG hk
    clear hk
    by_cases hi2 : i < 2
    · have hiI : (i : Int) < 2 := by omega
      go_wp2
      go_loopw [5] (fun i wr => ∃ k : Nat, i = .int .i64 k ∧ k ≤ 5 ∧ Kn3 w nb lb vb wr) (fun i _ => 5 - (intOf i).toNat)
      case atStart => exact ⟨0, rfl, by omega, K1.out⟩
      case round =>
        obtain ⟨k, rfl, hk5, hk⟩ := hrel
        have K2 := hidG hk
        clear hk
        by_cases hk2 : k < 5
        · have hkI : (k : Int) < 5 := by omega
          go_wp2
          go_loopw [6] (fun i wr => ∃ k : Nat, i = .int .i64 k ∧ k ≤ 4 ∧ Kn3 w nb lb vb wr) (fun i _ => 4 - (intOf i).toNat)
          case atStart => exact ⟨0, rfl, by omega, K2.out⟩
          case round =>
            obtain ⟨j, rfl, hj4, hk⟩ := hrel
            have K3 := hidG hk
            clear hk
            by_cases hj2 : j < 4
            · have hjI : (j : Int) < 4 := by omega
              go_wp2
              go_loopw [7] (fun i wr => ∃ k : Nat, i = .int .i64 k ∧ k ≤ 16 ∧ Kn3 w nb lb vb wr) (fun i _ => 16 - (intOf i).toNat)
              case atStart => exact ⟨0, rfl, by omega, K3.out⟩
              case round =>
                obtain ⟨n, rfl, hn16, hk⟩ := hrel
                have K4 := hidG hk
                clear hk
                by_cases hn2 : n < 16
                · have hnI : (n : Int) < 16 := by omega
                  obtain ⟨m, hm⟩ : ∃ m, n % 2 = m := ⟨_, rfl⟩
                  have hm2 : m < 2 := by omega
                  have trem : Int.tmod (n : Int) 2 = (m : Int) := by rw [← hm]; rfl
                  have s1 := K4.out.n i hi2
                  have s2 := K4.out.n m hm2
                  have s3 := K4.out.l k hk2
                  have s4 := K4.out.v j hj2
                  have hmI : (m : Int) < 2 := by omega
                  have KA := fun o => K4.out.below (box_one wr o)
                  have a1 := fun o => (KA o).n i hi2
                  have a2 := fun o => (KA o).n m hm2
                  have a3 := fun o => (KA o).l k hk2
                  have a4 := fun o => (KA o).v j hj2
                  clear KA
                  go_upto_region 16 with fail
                  go_region
                  obtain ⟨R, hR⟩ : ∃ R : Rq, R = ⟨nmsE i, nmsE m, n, lvsE k, lfsE j⟩ := ⟨_, rfl⟩
                  have hRf : R.fit := by rw [hR]; exact ⟨nms_fit i, nms_fit m, (by show n < _; omega), lvs_fit k hk2, lfs_fit j hj2⟩
                  obtain ⟨w5, hw5⟩ : ∃ w5, (wr.alloc (.cells #[.string (nmsE i), .string (nmsE m), .int .u64 (n : Int), .int .i64 (lvsE k), .int .i64 (lfsE j)] 34)).drew = w5 := ⟨_, rfl⟩
                  rw [hw5]
                  have K5 : Hid (Kn3 w nb lb vb w5) := hidG (by rw [← hw5]; exact K4.out.below (box_one wr _).drew)
                  have R5 : Hid (w5.heap[wr.heap.size]? = some (.cells R.arr 34)) := hidG (by rw [← hw5, hR]; exact heap_alloc_new wr _)
                  obtain ⟨gr, hgr⟩ : ∃ g, wr.heap.size = g := ⟨_, rfl⟩
                  rw [hgr] at R5 ⊢
                  have HRF := hidG hRf
                  clear hw5 hR hRf s1 s2 s3 s4 a1 a2 a3 a4 trem hm hm2 hmI hgr
                  go_upto_region 18 with fail
                  obtain ⟨bi, hbi⟩ : ∃ b, (1048575 + (n : Int) / 2 % 2) = b := ⟨_, rfl⟩
                  obtain ⟨fu, hfu⟩ : ∃ b, ((n : Int) / 4 % 2 == 1) = b := ⟨_, rfl⟩
                  rw [hbi, hfu]
                  obtain ⟨w6, hw6⟩ : ∃ w6, w5.alloc (.cells #[.int .i64 40, .int .i64 bi, .bool fu] 43) = w6 := ⟨_, rfl⟩
                  rw [hw6]
                  have K6 : Hid (Kn3 w nb lb vb w6) := hidG (by rw [← hw6]; exact K5.out.below (box_one w5 _))
                  have R6 : Hid (w6.heap[gr]? = some (.cells R.arr 34)) := hidG (by rw [← hw6]; exact (heap_alloc_old _ _ (Array.getElem?_eq_some_iff.1 R5.out).1).trans R5.out)
                  have X6 : Hid (w6.heap[w5.heap.size]? = some (.cells #[nu 40, nu bi, .bool fu] 43)) := hidG (by rw [← hw6]; exact heap_alloc_new w5 _)
                  obtain ⟨gx, hgx⟩ : ∃ g, w5.heap.size = g := ⟨_, rfl⟩
                  rw [hgx] at X6 ⊢
                  clear hw6 hbi hfu hgx K5 R5
                  go_wp2_with fail
                  refine (parent_any _).mono ?_
                  rintro e w7 ⟨rfl, hb⟩
                  obtain ⟨PS, hPS⟩ : ∃ S, parS = S := ⟨_, rfl⟩
                  rw [hPS]
                  have K7 := hidG (K6.out.below hb)
                  have R7 := hidG ((hb.block _ (Array.getElem?_eq_some_iff.1 R6.out).1).trans R6.out)
                  have X7 := hidG ((hb.block _ (Array.getElem?_eq_some_iff.1 X6.out).1).trans X6.out)
                  have HN7 := hidG (heap_alloc_new w7 (.cells zeroS.arr 28))
                  have HPS := hidG hPS
                  clear hb hPS K6 R6 X6
                  go_upto_region 20 with (first | (refine wpList_store_sn rfl _ _ rfl w7.heap.size rfl PS zeroS rfl HN7.out ?_; intro w8 hh hg; have K8 := hidG (K7.out.new hg); have R8 := hidG (new_far R7.out hg); have X8 := hidG (new_far X7.out hg); have P8 := hidG hh; have c11 : w8.cell? ⟨w7.heap.size, 11, none⟩ = some (nu PS.depth) := by { rw [cell_of_row w8 _ 11 _ _ _ hh]; rfl }; have f11 : w8.frozen? ⟨w7.heap.size, 11, none⟩ = false := by { simp [World.frozen?, hh] }; clear hh hg) | fail)
                  obtain ⟨w9, hw9⟩ : ∃ w9, w8.setCell ⟨w7.heap.size, 11, none⟩ (.int .i64 (5 + (n : Int) / 8)) = w9 := ⟨_, rfl⟩
                  rw [hw9]
                  obtain ⟨P, hP⟩ : ∃ P : Sn, P = { PS with depth := 5 + (n : Int) / 8 } := ⟨_, rfl⟩
                  have hPf : P.fit := by
                    rw [hP, ← HPS.out]
                    obtain ⟨f1, f2, f3, f4, f5, f6, f7, f8, f9, f10, f11, f12⟩ := parS_fit
                    exact ⟨f1, f2, f3, f4, f5, f6, f7, f8, f9, f10, f11, (by show i64 (5 + (n : Int) / 8); unfold i64; omega)⟩
                  have ltr := (Array.getElem?_eq_some_iff.1 R7.out).1
                  have ltx := (Array.getElem?_eq_some_iff.1 X7.out).1
                  have ltn := (Array.getElem?_eq_some_iff.1 K7.out.hn).1
                  have ltl := (Array.getElem?_eq_some_iff.1 K7.out.hl).1
                  have ltv := (Array.getElem?_eq_some_iff.1 K7.out.hv).1
                  have KQ : Hid (Kq w nb lb vb gr gx w7.heap.size R 40 bi fu P w9) := hidG (by
                    rw [← hw9]
                    refine ⟨⟨K8.out.bel.setCell (p := ⟨w7.heap.size, 11, none⟩) K7.out.bel.size _, (setCell_off _ _ _ (by omega)).trans K8.out.hn, (setCell_off _ _ _ (by omega)).trans K8.out.hl, (setCell_off _ _ _ (by omega)).trans K8.out.hv⟩, (setCell_off _ _ _ (by omega)).trans R8.out, (setCell_off _ _ _ (by omega)).trans X8.out, ?_⟩
                    rw [hP]
                    exact heap_setCell_same _ _ 11 _ _ _ P8.out)
                  obtain ⟨gp, hgp⟩ : ∃ g, w7.heap.size = g := ⟨_, rfl⟩
                  rw [hgp] at KQ ⊢
                  have HPF := hidG hPf
                  clear hw9 hP hPf ltr ltx ltn ltl ltv hgp c11 f11 K7 R7 X7 HN7 K8 R8 X8 P8
                  have x0 := KQ.out.x0
                  have x1 := KQ.out.x1
                  have x2 := KQ.out.x2
                  go_wp2_with (first | (refine wpList_load_rq rfl _ rfl gr rfl R KQ.out.hr ?_) | (refine wpList_load_whenR (by rfl) _ rfl gr rfl R KQ.out.hr ?_) | (refine wpList_load_whenS (by rfl) _ rfl gp rfl P KQ.out.hp ?_) | (go_at_call 13; refine (HL.out.l _ R 40 bi fu KQ.out.k.bel HRF.out).mono ?_; rintro e w10 ⟨rfl, hb⟩; have KQ := hidG (KQ.out.below hb); clear hb x0 x1 x2; have x0 := KQ.out.x0; have x1 := KQ.out.x1; have x2 := KQ.out.x2) | (go_at_call 14; refine (HL.out.c _ P R 40 bi fu KQ.out.k.bel HPF.out HRF.out).mono ?_; rintro e w10 ⟨rfl, hb⟩; have KQ := hidG (KQ.out.below hb); clear hb x0 x1 x2; have x0 := KQ.out.x0; have x1 := KQ.out.x1; have x2 := KQ.out.x2) | (go_at_call 15; refine (HL.out.r _ P R 40 bi fu KQ.out.k.bel HPF.out HRF.out).mono ?_; rintro e w10 ⟨rfl, hb⟩; have KQ := hidG (KQ.out.below hb); clear hb x0 x1 x2; have x0 := KQ.out.x0; have x1 := KQ.out.x1; have x2 := KQ.out.x2) | (go_at_call 16; refine (HL.out.o _ P R 40 bi fu KQ.out.k.bel HPF.out HRF.out).mono ?_; rintro e w10 ⟨rfl, hb⟩; have KQ := hidG (KQ.out.below hb); clear hb x0 x1 x2; have x0 := KQ.out.x0; have x1 := KQ.out.x1; have x2 := KQ.out.x2) | fail)
                  go_roundw
                  case rel => exact ⟨n + 1, by go_num, by omega, KQ.out.k⟩
                  case measure => simp [intOf]; omega
                · obtain rfl : n = 16 := by omega
                  have hnI : ¬ (((16 : Nat) : Int)) < 16 := by omega
                  go_wp2
                  go_roundw
                  case rel => exact ⟨j + 1, by go_num, by omega, K4.out⟩
                  case measure => simp [intOf]; omega
            · obtain rfl : j = 4 := by omega
              go_wp2
              go_roundw
              case rel => exact ⟨k + 1, by go_num, by omega, K3.out⟩
              case measure => simp [intOf]; omega
        · obtain rfl : k = 5 := by omega
          go_wp2
          go_roundw
          case rel => exact ⟨i + 1, by go_num, by omega, K2.out⟩
          case measure => simp [intOf]; omega
    · obtain rfl : i = 2 := by omega
      go_wp2
      go_ret
      exact ⟨rfl, K1.out.bel⟩
end Gr
end Go.Proofs.YtbgggekkkcefcabDoor
