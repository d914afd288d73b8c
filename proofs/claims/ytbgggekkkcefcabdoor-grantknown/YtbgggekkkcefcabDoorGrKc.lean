/- Layer 22: each limit from both sides. -/
import Derived.Test.YtbgggekkkcefcabDoorGrKb
namespace Go.Proofs.YtbgggekkkcefcabDoor
set_option linter.ambiguousOpen false
open Go.RowKit
namespace Gr
set_option linter.unusedVariables false
set_option linter.unusedSimpArgs false

@[reducible] def endsA : Array Value := #[.int .i64 (-9223372036854775808), .int .i64 (-1), .int .i64 0, .int .i64 1, .int .i64 300, .int .i64 301, .int .i64 1073741824, .int .i64 1073741825, .int .i64 1099511627775, .int .i64 1099511627776, .int .i64 1099511627777, .int .i64 9223372036854775807]
def endsE (i : Nat) : Int := [-9223372036854775808, -1, 0, 1, 300, 301, 1073741824, 1073741825, 1099511627775, 1099511627776, 1099511627777, 9223372036854775807].getD i 0

/-- The ends lie there. -/
structure Ke (w0 : World) (eb : Nat) (w : World) : Prop where
  bel : Below w0.heap.size w0 w
  he : w.heap[eb]? = some (.cells endsA 3)

section
variable {w0 w w' : World} {eb : Nat}

theorem Ke.below (h : Ke w0 eb w) (hb : Below w.heap.size w w') : Ke w0 eb w' :=
  ⟨h.bel.trans (hb.mono h.bel.size), (hb.block _ (Array.getElem?_eq_some_iff.1 h.he).1).trans h.he⟩

theorem Ke.new {o : Obj} (h : Ke w0 eb w) (hg : (w.alloc o).grownBy w' (some w.heap.size)) : Ke w0 eb w' :=
  ⟨new_below h.bel hg, new_far h.he hg⟩

theorem Ke.at (h : Ke w0 eb w) (i : Nat) (hi : i < 12) : w.cell? ⟨eb, i, none⟩ = some (nu (endsE i)) := by
  rw [cell_of_row w eb i _ _ _ h.he]
  match i, hi with
  | 0, _ => rfl
  | 1, _ => rfl
  | 2, _ => rfl
  | 3, _ => rfl
  | 4, _ => rfl
  | 5, _ => rfl
  | 6, _ => rfl
  | 7, _ => rfl
  | 8, _ => rfl
  | 9, _ => rfl
  | 10, _ => rfl
  | 11, _ => rfl
end

/-- What lies there when the laws are asked. -/
structure Kz (w0 : World) (eb gp gq gr gx gy : Nat) (P Q : Sn) (R : Rq) (X Y : Int) (w : World) : Prop where
  bel : Below w0.heap.size w0 w
  he : w.heap[eb]? = some (.cells endsA 3)
  hp : w.heap[gp]? = some (.cells P.arr 28)
  hq : w.heap[gq]? = some (.cells Q.arr 28)
  hr : w.heap[gr]? = some (.cells R.arr 34)
  hx : w.heap[gx]? = some (.cells #[nu X, nu Y, .bool false] 43)
  hy : w.heap[gy]? = some (.cells #[.int .i64 5, .int .i64 7, .bool false] 43)

section
variable {w0 w w' : World} {eb gp gq gr gx gy : Nat} {P Q : Sn} {R : Rq} {X Y : Int}

theorem Kz.below (h : Kz w0 eb gp gq gr gx gy P Q R X Y w) (hb : Below w.heap.size w w') : Kz w0 eb gp gq gr gx gy P Q R X Y w' :=
  ⟨h.bel.trans (hb.mono h.bel.size), (hb.block _ (Array.getElem?_eq_some_iff.1 h.he).1).trans h.he, (hb.block _ (Array.getElem?_eq_some_iff.1 h.hp).1).trans h.hp, (hb.block _ (Array.getElem?_eq_some_iff.1 h.hq).1).trans h.hq, (hb.block _ (Array.getElem?_eq_some_iff.1 h.hr).1).trans h.hr, (hb.block _ (Array.getElem?_eq_some_iff.1 h.hx).1).trans h.hx, (hb.block _ (Array.getElem?_eq_some_iff.1 h.hy).1).trans h.hy⟩

theorem Kz.x0 (h : Kz w0 eb gp gq gr gx gy P Q R X Y w) : w.cell? ⟨gx, 0, none⟩ = some (nu X) := by rw [cell_of_row w _ 0 _ _ _ h.hx]; rfl
theorem Kz.x1 (h : Kz w0 eb gp gq gr gx gy P Q R X Y w) : w.cell? ⟨gx, 1, none⟩ = some (nu Y) := by rw [cell_of_row w _ 1 _ _ _ h.hx]; rfl
theorem Kz.x2 (h : Kz w0 eb gp gq gr gx gy P Q R X Y w) : w.cell? ⟨gx, 2, none⟩ = some (.bool false) := by rw [cell_of_row w _ 2 _ _ _ h.hx]; rfl
theorem Kz.y0 (h : Kz w0 eb gp gq gr gx gy P Q R X Y w) : w.cell? ⟨gy, 0, none⟩ = some (.int .i64 5) := by rw [cell_of_row w _ 0 _ _ _ h.hy]; rfl
theorem Kz.y1 (h : Kz w0 eb gp gq gr gx gy P Q R X Y w) : w.cell? ⟨gy, 1, none⟩ = some (.int .i64 7) := by rw [cell_of_row w _ 1 _ _ _ h.hy]; rfl
theorem Kz.y2 (h : Kz w0 eb gp gq gr gx gy P Q R X Y w) : w.cell? ⟨gy, 2, none⟩ = some (.bool false) := by rw [cell_of_row w _ 2 _ _ _ h.hy]; rfl
end

theorem ends_fit : ∀ i, i < 12 → i64 (endsE i) := by unfold i64; decide +kernel
theorem ends_and : ∀ i, i < 12 → i64 (bits .and .i64 (endsE i) 3) := by unfold i64; decide +kernel

theorem one_block (w : World) (o : Obj) : (w.alloc o).heap[w.heap.size]? = some o := heap_alloc_new w o
theorem old_block {w : World} {o x : Obj} {g : Nat} (h : w.heap[g]? = some x) : (w.alloc o).heap[g]? = some x := (heap_alloc_old _ _ (Array.getElem?_eq_some_iff.1 h).1).trans h

set_option maxRecDepth 100000 in
set_option maxHeartbeats 64000000 in
theorem knownEnds_yes (w : World) (hL : LawsC w) : Calls Tryd.prog 6 #[] w fun e w' => e = .returned (.bool true) ∧ Below w.heap.size w w' := by
  have HL := hidG hL
  obtain ⟨w3, hw3⟩ : ∃ w3, w.alloc (.cells endsA 3) = w3 := ⟨_, rfl⟩
  have K0 : Hid (Ke w w.heap.size w3) := hidG (by
    rw [← hw3]
    exact ⟨box_one _ _, one_block _ _⟩)
  obtain ⟨eb, heb⟩ : ∃ b, w.heap.size = b := ⟨_, rfl⟩
  rw [heb] at K0
  have HW3 := hidG hw3
  have HEB := hidG heb
  clear hw3 hL heb
  go_enter Tryd.func6, Tryd.ntmps6
  go_upto_region 2 with fail
  rw [HW3.out, HEB.out]
  clear HW3
  go_wp2
  go_loopw [2] (fun i wr => ∃ k : Nat, i = .int .i64 k ∧ k ≤ 12 ∧ Ke w eb wr) (fun i _ => 12 - (intOf i).toNat)
  case atStart => exact ⟨0, rfl, by omega, K0.out⟩
  case round =>
    obtain ⟨i, rfl, hi, hk⟩ := hrel
    have K1 := hidG hk
    clear hk
    by_cases hi2 : i < 12
    · have hiI : (i : Int) < 12 := by omega
      go_wp2
      go_loopw [3] (fun i wr => ∃ k : Nat, i = .int .i64 k ∧ k ≤ 12 ∧ Ke w eb wr) (fun i _ => 12 - (intOf i).toNat)
      case atStart => exact ⟨0, rfl, by omega, K1.out⟩
      case round =>
        obtain ⟨k, rfl, hk5, hk⟩ := hrel
        have K2 := hidG hk
        clear hk
        by_cases hk2 : k < 12
        · have hkI : (k : Int) < 12 := by omega
          obtain ⟨X, hX⟩ : ∃ X, endsE i = X := ⟨_, rfl⟩
          obtain ⟨Y, hY⟩ : ∃ Y, endsE k = Y := ⟨_, rfl⟩
          have KC : Hid (∀ wx, Ke w eb wx → wx.cell? ⟨eb, i, none⟩ = some (nu X) ∧ wx.cell? ⟨eb, k, none⟩ = some (nu Y)) := hidG fun wx h => ⟨by rw [← hX]; exact h.at i hi2, by rw [← hY]; exact h.at k hk2⟩
          have hXf : i64 X := by rw [← hX]; exact ends_fit i hi2
          have hYf : i64 Y := by rw [← hY]; exact ends_fit k hk2
          obtain ⟨L, hLL⟩ : ∃ L, bits .and .i64 X 3 = L := ⟨_, rfl⟩
          have hLf : i64 L := by rw [← hLL, ← hX]; exact ends_and i hi2
          have s1 := (KC.out wr K2.out).1
          have s2 := (KC.out wr K2.out).2
          have a1 := fun o => (KC.out _ (K2.out.below (box_one wr o))).1
          have a2 := fun o => (KC.out _ (K2.out.below (box_one wr o))).2
          clear hX hY
          have HPF : Hid (∀ P : Sn, P = ⟨X, Y, 0, 0, 0, ⟨#[97, 110, 110]⟩, ⟨#[]⟩, 15, L, 0, Y, X⟩ → P.fit) := hidG (by
            have z0 : i64 0 := by decide
            rintro P rfl
            exact ⟨(by decide : (⟨#[97, 110, 110]⟩ : ByteArray).size ≤ 281474976710656), (by decide : (⟨#[]⟩ : ByteArray).size ≤ 281474976710656), (by decide : (15 : Nat) < 18446744073709551616), hXf, hYf, z0, z0, z0, hLf, z0, hYf, hXf⟩)
          have HQF : Hid (∀ Q : Sn, Q = ⟨1, 2, 0, 0, 0, ⟨#[120, 32, 121]⟩, ⟨#[]⟩, 18446744073709551615, 0, 0, X, 3⟩ → Q.fit) := hidG (by
            have z0 : i64 0 := by decide
            rintro Q rfl
            exact ⟨(by decide : (⟨#[120, 32, 121]⟩ : ByteArray).size ≤ 281474976710656), (by decide : (⟨#[]⟩ : ByteArray).size ≤ 281474976710656), (by decide : (18446744073709551615 : Nat) < 18446744073709551616), (by decide : i64 1), (by decide : i64 2), z0, z0, z0, z0, z0, hXf, (by decide : i64 3)⟩)
          have HRF : Hid (∀ R : Rq, R = ⟨⟨#[97, 110, 110]⟩, ⟨#[98, 45, 50]⟩, 3, 1, Y⟩ → R.fit) := hidG (by
            rintro R rfl
            exact ⟨(by decide : (⟨#[97, 110, 110]⟩ : ByteArray).size ≤ 281474976710656), (by decide : (⟨#[98, 45, 50]⟩ : ByteArray).size ≤ 281474976710656), (by decide : (3 : Nat) < 18446744073709551616), (by decide : i64 1), hYf⟩)
          clear hXf hYf hLf
          go_upto_region 8 with fail
          go_cut [4] from 16 to 115 (fun y wx => y = .pointer (some ⟨wr.heap.size, 0, none⟩) ∧ Hid (Ke w eb wx) ∧ Hid (∃ P : Sn, P.fit ∧ wx.heap[wr.heap.size]? = some (.cells P.arr 28)))
          case first =>
            go_region
            go_wp2_with fail
            go_meet
            exact ⟨rfl, hidG (K2.out.below (box_one wr _).drew), hidG ⟨_, HPF.out _ rfl, one_block wr _⟩⟩
          case rest =>
          rename World => w5
          obtain ⟨rfl, K5, ⟨P, hPf, hP5⟩⟩ := hcut
          have HP := hidG hPf
          have P5 := hidG hP5
          obtain ⟨gp, hgp⟩ : ∃ g, wr.heap.size = g := ⟨_, rfl⟩
          rw [hgp] at P5 ⊢
          have HN5 := hidG (heap_alloc_new w5 (.cells zeroS.arr 28))
          have e1 := (KC.out _ K5.out).1
          obtain ⟨Q, hQ⟩ : ∃ P : Sn, P = ⟨1, 2, 0, 0, 0, ⟨#[120, 32, 121]⟩, ⟨#[]⟩, 18446744073709551615, 0, 0, X, 3⟩ := ⟨_, rfl⟩
          obtain ⟨R, hR⟩ : ∃ R : Rq, R = ⟨⟨#[97, 110, 110]⟩, ⟨#[98, 45, 50]⟩, 3, 1, Y⟩ := ⟨_, rfl⟩
          have HQ := hidG (HQF.out Q hQ)
          have HR := hidG (HRF.out R hR)
          have HQV : Hid (Q.v = .agg #[.int .i64 1, .int .i64 2, .int .i64 0, .int .i64 0, .int .i64 0, .string ⟨#[120, 32, 121]⟩, .string ⟨#[]⟩, .int .u64 18446744073709551615, .int .i64 0, .int .i64 0, .int .i64 X, .int .i64 3]) := hidG (by rw [hQ]; rfl)
          have HRV : Hid (R.v = .agg #[.string ⟨#[97, 110, 110]⟩, .string ⟨#[98, 45, 50]⟩, .int .u64 3, .int .i64 1, .int .i64 Y]) := hidG (by rw [hR]; rfl)
          clear hQ hR hPf hP5 hgp HPF HQF HRF s1 s2 a1 a2 hLL
          go_upto_region 9 with fail
          go_cut [5] from 16 to 115 (fun y wx => y = .pointer (some ⟨w5.heap.size, 0, none⟩) ∧ Hid (Ke w eb wx) ∧ Hid (wx.heap[gp]? = some (.cells P.arr 28)) ∧ Hid (wx.heap[w5.heap.size]? = some (.cells Q.arr 28)))
          case first =>
            go_upto_region 10 with (first | (refine wpList_store_sn rfl _ _ rfl w5.heap.size rfl Q zeroS HQV.out.symm HN5.out ?_; intro w6 hh hg; have K6 := hidG (K5.out.new hg); have P6 := hidG (new_far P5.out hg); have Q6 := hidG hh; clear hh hg) | fail)
            go_meet
            exact ⟨rfl, K6, P6, Q6⟩
          case rest =>
          rename World => w6
          obtain ⟨rfl, K6, P6, Q6⟩ := hcut
          have e2 := (KC.out _ K6.out).2
          have HN6 := hidG (heap_alloc_new w6 (.cells zeroR.arr 34))
          go_upto_region 11 with (first | (refine wpList_store_rq rfl _ _ rfl w6.heap.size rfl R zeroR HRV.out.symm HN6.out ?_; intro w7 hh hg; have K7 := hidG (K6.out.new hg); have P7 := hidG (new_far P6.out hg); have Q7 := hidG (new_far Q6.out hg); have R7 := hidG hh; clear hh hg) | fail)
          obtain ⟨gr, hgr⟩ : ∃ g, w6.heap.size = g := ⟨_, rfl⟩
          rw [hgr] at R7 ⊢
          clear hgr e2 HN6 K6 P6 Q6
          obtain ⟨gq, hgq⟩ : ∃ g, w5.heap.size = g := ⟨_, rfl⟩
          rw [hgq] at Q7 ⊢
          have b1 := (KC.out w7 K7.out).1
          have b2 := (KC.out w7 K7.out).2
          have a1 := fun o => (KC.out _ (K7.out.below (box_one w7 o))).1
          have a2 := fun o => (KC.out _ (K7.out.below (box_one w7 o))).2
          simp only [Act.put]
          clear hgq K5 P5 HN5 HQV HRV e1
          go_cut [7] from 16 to 115 (fun y wx => y = .pointer (some ⟨w7.heap.size, 0, none⟩) ∧ Hid (Ke w eb wx) ∧ Hid (wx.heap[gp]? = some (.cells P.arr 28)) ∧ Hid (wx.heap[gq]? = some (.cells Q.arr 28)) ∧ Hid (wx.heap[gr]? = some (.cells R.arr 34)) ∧ Hid (wx.heap[w7.heap.size]? = some (.cells #[nu X, nu Y, .bool false] 43)))
          case first =>
            go_region
            all_goals (go_wp2_with fail; go_meet; exact ⟨rfl, hidG (K7.out.below (box_one w7 _).drew), hidG (old_block P7.out), hidG (old_block Q7.out), hidG (old_block R7.out), hidG (one_block w7 _)⟩)
          case rest =>
          rename World => w8
          obtain ⟨rfl, K8, P8, Q8, R8, X8⟩ := hcut
          obtain ⟨gx, hgx⟩ : ∃ g, w7.heap.size = g := ⟨_, rfl⟩
          rw [hgx] at X8 ⊢
          clear hgx a1 a2 b1 b2 K7 P7 Q7 R7
          go_upto_region 12 with fail
          go_cut [8] from 16 to 115 (fun y wx => y = .pointer (some ⟨w8.heap.size, 0, none⟩) ∧ Hid (Kz w eb gp gq gr gx w8.heap.size P Q R X Y wx))
          case first =>
            go_upto_region 13 with fail
            go_meet
            have hb := box_one w8 (.cells #[.int .i64 5, .int .i64 7, .bool false] 43)
            exact ⟨rfl, hidG ⟨K8.out.bel.trans (hb.mono K8.out.bel.size), old_block K8.out.he, old_block P8.out, old_block Q8.out, old_block R8.out, old_block X8.out, one_block w8 _⟩⟩
          case rest =>
          rename World => w9
          obtain ⟨rfl, KZ⟩ := hcut
          obtain ⟨gy, hgy⟩ : ∃ g, w8.heap.size = g := ⟨_, rfl⟩
          rw [hgy] at KZ ⊢
          clear hgy K8 P8 Q8 R8 X8 K2 K1 KC
          have x0 := KZ.out.x0
          have x1 := KZ.out.x1
          have x2 := KZ.out.x2
          have y0 := KZ.out.y0
          have y1 := KZ.out.y1
          have y2 := KZ.out.y2
          go_wp2_with (first | (refine wpList_load_rq rfl _ rfl gr rfl R KZ.out.hr ?_) | (refine wpList_load_whenR (by rfl) _ rfl gr rfl R KZ.out.hr ?_) | (refine wpList_load_whenS (by rfl) _ rfl gp rfl P KZ.out.hp ?_) | (refine wpList_load_whenS (by rfl) _ rfl gq rfl Q KZ.out.hq ?_) | (go_at_call 13; (first | (with_reducible refine (HL.out.l _ R X Y false KZ.out.bel HR.out).mono ?_) | (with_reducible refine (HL.out.l _ R 5 7 false KZ.out.bel HR.out).mono ?_)); rintro e w10 ⟨rfl, hb⟩; have KZ := hidG (KZ.out.below hb); clear hb x0 x1 x2 y0 y1 y2; have x0 := KZ.out.x0; have x1 := KZ.out.x1; have x2 := KZ.out.x2; have y0 := KZ.out.y0; have y1 := KZ.out.y1; have y2 := KZ.out.y2) | (go_at_call 14; (first | (with_reducible refine (HL.out.c _ P R X Y false KZ.out.bel HP.out HR.out).mono ?_) | (with_reducible refine (HL.out.c _ Q R 5 7 false KZ.out.bel HQ.out HR.out).mono ?_) | (with_reducible refine (HL.out.c _ P R 5 7 false KZ.out.bel HP.out HR.out).mono ?_)); rintro e w10 ⟨rfl, hb⟩; have KZ := hidG (KZ.out.below hb); clear hb x0 x1 x2 y0 y1 y2; have x0 := KZ.out.x0; have x1 := KZ.out.x1; have x2 := KZ.out.x2; have y0 := KZ.out.y0; have y1 := KZ.out.y1; have y2 := KZ.out.y2) | (go_at_call 15; (first | (with_reducible refine (HL.out.r _ P R 5 7 false KZ.out.bel HP.out HR.out).mono ?_) | (with_reducible refine (HL.out.r _ Q R X Y false KZ.out.bel HQ.out HR.out).mono ?_) | (with_reducible refine (HL.out.r _ Q R 5 7 false KZ.out.bel HQ.out HR.out).mono ?_)); rintro e w10 ⟨rfl, hb⟩; have KZ := hidG (KZ.out.below hb); clear hb x0 x1 x2 y0 y1 y2; have x0 := KZ.out.x0; have x1 := KZ.out.x1; have x2 := KZ.out.x2; have y0 := KZ.out.y0; have y1 := KZ.out.y1; have y2 := KZ.out.y2) | fail)
          go_roundw
          case rel => exact ⟨k + 1, by go_num, by omega, ⟨KZ.out.bel, KZ.out.he⟩⟩
          case measure => simp [intOf]; omega
        · obtain rfl : k = 12 := by omega
          go_wp2
          go_roundw
          case rel => exact ⟨i + 1, by go_num, by omega, K2.out⟩
          case measure => simp [intOf]; omega
    · obtain rfl : i = 12 := by omega
      go_wp2
      go_ret
      exact ⟨rfl, K1.out.bel⟩
end Gr
end Go.Proofs.YtbgggekkkcefcabDoor
