/- The tag of a slot and a birth; whether two tags are the same. -/
import Derived.Test.YtfflmpmhacfijaaDoorSums
import Derived.ChangeKeysEq
namespace Go.Proofs.YtfflmpmhacfijaaDoor
set_option linter.ambiguousOpen false
open Go.RowKit
namespace Tg
open Sm
set_option linter.unusedSimpArgs false
set_option linter.unusedVariables false

theorem info_u64 : (Tryd.prog.info? 30).map (fun i => (i.zero, i.size, i.bytes)) = some (some (.int .u64 0), 1, 8) := by kernel_rfl

theorem cells_u64 : Tryd.prog.cellsOf 30 = 1 := by kernel_rfl

set_option maxRecDepth 100000 in
theorem same_eq (a b : Int) (w : World) : (binOp .eql 47 (.agg #[u8v a, u8v 0, u8v 0, u8v 0]) (.agg #[u8v b, u8v 0, u8v 0, u8v 0])).run Tryd.prog w = .ok (.bool (a == b)) w := by
  obtain ⟨i0, hi, hz0, hz1, hz2⟩ := info_parts info_u64
  rw [run_eql_struct, show (10000 : Nat) = 9998 + 1 + 1 from rfl, run_equalIn_array w (9998 + 1) _ _ Tryd.underlying47 hi, cells_u64, show List.range 4 = [0, 1, 2, 3] from rfl]
  simp [Op.eqItems, part, go_sem, Tryd.underlying30, Tryd.isAgg30, Tryd.sizeOf30]
  by_cases h : a = b <;> simp [h]

theorem same_any (a b : Int) (w : World) : Calls Tryd.prog 13 #[u8v a, u8v b] w fun e w' => e = .returned (.bool (a == b)) ∧ w' = w := by
  have hq := fun w => same_eq a b w
  generalize (a == b) = q at *
  go_enter Tryd.func13, Tryd.ntmps13
  go_wp2
  go_ret
  exact ⟨rfl, rfl⟩

/-- The i-th byte of a number, the lowest first. -/
def by8 (x : Int) (i : Nat) : UInt8 := UInt8.ofNat (x / 2 ^ (8 * i) % 256).toNat

theorem by8_val (x : Int) (i : Nat) : ((by8 x i).toNat : Int) = x / 2 ^ (8 * i) % 256 := by
  unfold by8
  generalize x / 2 ^ (8 * i) = y
  rw [UInt8.toNat_ofNat', Nat.mod_eq_of_lt (by omega)]
  omega

/-- Twelve bytes that lie in a block. -/
def arC (f : Nat → UInt8) : Array Value := ((List.range 12).map fun i => by1 (f i)).toArray

def Ar (w : World) (H : Nat) (f : Nat → UInt8) : Prop := w.heap[H]? = some (.cells (arC f) 59)

theorem arC_at (f : Nat → UInt8) (j : Nat) (h : j < 12) : (arC f)[j]? = some (by1 (f j)) := by
  unfold arC
  simp [h]

theorem arC_set (f : Nat → UInt8) (j : Nat) (y : UInt8) : (arC f).setIfInBounds j (by1 y) = arC (fun i => if i = j then y else f i) := by
  apply Array.ext_getElem?
  intro i
  unfold arC
  simp only [Array.getElem?_setIfInBounds]
  by_cases h : j = i
  · subst h
    by_cases h2 : j < 12
    · simp [h2]
    · simp [h2]
  · rw [if_neg h]
    by_cases h2 : i < 12
    · have hne : ¬ i = j := fun e => h e.symm
      simp [h2, hne]
    · simp [h2]

theorem Ar.cell {w : World} {H : Nat} {f : Nat → UInt8} (h : Ar w H f) (j : Nat) (hj : j < 12) : w.cell? ⟨H, j, none⟩ = some (by1 (f j)) := by
  unfold Ar at h
  simp [World.cell?, h, arC_at f j hj]

theorem Ar.free {w : World} {H : Nat} {f : Nat → UInt8} (h : Ar w H f) (i : Nat) : w.frozen? ⟨H, i, none⟩ = false := by
  unfold Ar at h
  simp [World.frozen?, h]

theorem Ar.set {w : World} {H : Nat} {f : Nat → UInt8} (h : Ar w H f) (j : Nat) (y : UInt8) : Ar (w.setCell ⟨H, j, none⟩ (by1 y)) H (fun i => if i = j then y else f i) := by
  have := heap_setCell_same _ H j _ _ (by1 y) h
  unfold Ar
  rw [← arC_set]
  exact this

set_option maxHeartbeats 1000000 in
theorem put_any (H o n cap : Nat) (x : Int) (f : Nat → UInt8) (w : World) (hn : n ≤ 8) (ho : o + n ≤ 12) (hc : n ≤ cap) (hcm : cap ≤ 12) (h : Ar w H f) (hx : 0 ≤ x ∧ x < 18446744073709551616) :
    Calls Tryd.prog 28 #[.slice (some ⟨H, o, none⟩) n cap, u8v x] w fun e w' => (∃ v, e = .returned v) ∧ Ar w' H (fun i => if o ≤ i ∧ i < o + n then by8 x (i - o) else f i) ∧ Below H w w' := by
  have e0 : (fun i => if o ≤ i ∧ i < o + 0 then by8 x (i - o) else f i) = f := by
    funext i
    rw [if_neg (by omega)]
  have h0 : Hid (Ar w H (fun i => if o ≤ i ∧ i < o + 0 then by8 x (i - o) else f i)) := by
    show Ar _ _ _
    rw [e0]
    exact h
  clear e0 h
  go_enter Tryd.func28, Tryd.ntmps28
  go_wp2
  go_loopw [4, 7] (fun i4 iv wr => ∃ k : Nat, k ≤ n ∧ iv = nu k ∧ Hid (Ar wr H (fun i => if o ≤ i ∧ i < o + k then by8 x (i - o) else f i)) ∧ Hid (Below H w wr)) (fun _ iv _ => n - (intOf iv).toNat)
  case atStart => exact ⟨0, by omega, rfl, h0, Below.refl _ _⟩
  case round =>
    obtain ⟨k, hk, rfl, hA, hB⟩ := hrel
    by_cases hq : k < n
    · have c0 := hA.out.cell (o + k) (by omega)
      have f0 := hA.out.free
      have hv := by8_val x k
      have hA2 := Hid.mk' (hA.out.set (o + k) (by8 x k))
      have hB2 := Hid.mk' (hB.out.setCell (p := ⟨H, o + k, none⟩) (Nat.le_refl _) (by1 (by8 x k)))
      have hfe : Hid ((fun i => if i = o + k then by8 x k else if o ≤ i ∧ i < o + k then by8 x (i - o) else f i) = (fun i => if o ≤ i ∧ i < o + (k + 1) then by8 x (i - o) else f i)) := by
        show _ = _
        funext i
        by_cases e : i = o + k
        · subst e
          rw [if_pos rfl, if_pos (by omega), Nat.add_sub_cancel_left]
        · rw [if_neg e]
          by_cases e2 : o ≤ i ∧ i < o + k
          · rw [if_pos e2, if_pos (by omega)]
          · rw [if_neg e2, if_neg (by omega)]
      rw [hfe.out] at hA2
      generalize by8 x k = y at *
      unfold by1 at *
      rw [hv] at hA2 hB2
      go_wp2
      go_roundw
      case rel => exact ⟨k + 1, by omega, by go_num, hA2, hB2⟩
      case measure => simp [intOf]; omega
    · obtain rfl : k = n := by omega
      go_wp2
      go_end0
      exact ⟨⟨_, rfl⟩, hA.out, hB.out⟩

theorem wrap_u (s : Int) : 0 ≤ IntKind.u64.wrap s ∧ IntKind.u64.wrap s < 18446744073709551616 := by
  rw [IntKind.wrap_u64]
  omega

/-- The bytes of a number, the lowest first. -/
def le (x : Int) (n : Nat) : List UInt8 := (List.range n).map (by8 x)

/-- The twelve bytes of a slot and a birth. -/
def tw (s b : Int) : List UInt8 := le (IntKind.u64.wrap s) 4 ++ le (IntKind.u64.wrap b) 8

theorem ar_zero : (#[.int .u8 0, .int .u8 0, .int .u8 0, .int .u8 0, .int .u8 0, .int .u8 0, .int .u8 0, .int .u8 0, .int .u8 0, .int .u8 0, .int .u8 0, .int .u8 0] : Array Value) = arC (fun _ => 0) := rfl

theorem Ar.rd {w : World} {H : Nat} {f : Nat → UInt8} (h : Ar w H f) (l : List UInt8) (hl : l.length = 12) (hf : ∀ j (hj : j < l.length), f j = l[j]) : RdB w (.slice (some ⟨H, 0, none⟩) 12 12) l := by
  refine ⟨_, 12, by rw [hl], by omega, by decide, fun _ => ⟨H, 0, rfl, (Array.getElem?_eq_some_iff.1 h).1, fun j hj => ?_⟩⟩
  rw [Nat.zero_add, h.cell j (by omega), hf j hj]

theorem tw_len (s b : Int) : (tw s b).length = 12 := by simp [tw, le]

theorem tw_at (s b : Int) (f : Nat → UInt8) (j : Nat) (hj : j < (tw s b).length) : (if 4 ≤ j ∧ j < 4 + 8 then by8 (IntKind.u64.wrap b) (j - 4) else if 0 ≤ j ∧ j < 0 + 4 then by8 (IntKind.u64.wrap s) (j - 0) else f j) = (tw s b)[j] := by
  have h12 := tw_len s b
  unfold tw at *
  by_cases h : 4 ≤ j
  · rw [if_pos (by omega), List.getElem_append_right (by simp [le]; omega)]
    simp [le]
  · rw [if_neg (by omega), if_pos (by omega), List.getElem_append_left (by simp [le]; omega)]
    simp [le]

set_option maxHeartbeats 1000000 in
theorem keyOf_any (kv : V4) (gk : Nat) (s b : Int) (w : World) (hK : KeyAt w gk kv) :
    Calls Tryd.prog 14 #[.pointer (some ⟨gk, 0, none⟩), nu s, nu b] w fun e w' => e = .returned (u8v (goes 12 kv (tw s b))) ∧ Below w.heap.size w w' := by
  have hA : Hid (Ar (w.alloc (.cells (arC (fun _ => 0)) 59)) w.heap.size (fun _ => 0)) := heap_alloc_new _ _
  have hB : Hid (Below w.heap.size w (w.alloc (.cells (arC (fun _ => 0)) 59))) := (Below.refl _ _).alloc (Nat.le_refl _) _
  rw [← ar_zero] at hA hB
  have hgk := (Array.getElem?_eq_some_iff.1 hK).1
  have HK := Hid.mk' hK
  clear hK
  go_enter Tryd.func14, Tryd.ntmps14
  have hs := wrap_u s
  have hb := wrap_u b
  go_wp2_with fail
  refine (put_any w.heap.size 0 4 12 _ _ _ (by omega) (by omega) (by omega) (by omega) hA.out hs).mono ?_
  rintro e w1 ⟨⟨r1, rfl⟩, hA1, hb1⟩
  have HA1 := Hid.mk' hA1
  have hB1 := Hid.mk' (hB.out.trans hb1)
  have hl1 : w.heap.size < w1.heap.size := (Array.getElem?_eq_some_iff.1 hA1).1
  clear hA hB hA1 hb1
  go_wp2_with fail
  refine (put_any w.heap.size 4 8 8 _ _ _ (by omega) (by omega) (by omega) (by omega) HA1.out hb).mono ?_
  rintro e w2 ⟨⟨r2, rfl⟩, hA2, hb2⟩
  have hB2 := Hid.mk' (hB1.out.trans hb2)
  have c3 := keySum_any kv gk _ (tw s b) w2 (HK.out.below hB2.out) (hA2.rd _ (tw_len s b) (fun j hj => tw_at s b (fun _ => 0) j hj))
  rw [tw_len] at c3
  clear hA2 hb2 HA1 hB1
  go_wp2_with fail
  refine c3.mono ?_
  rintro e w3 ⟨rfl, hb3⟩
  have hB3 := Hid.mk' (below_to hB2.out hb3)
  go_wp2
  go_ret
  exact ⟨rfl, hB3.out⟩

theorem le_succ (x : Int) (k : Nat) : le x (k + 1) = le x k ++ [by8 x k] := by simp [le, List.range_succ]

theorem le_len (x : Int) (k : Nat) : (le x k).length = k := by simp [le]

set_option maxRecDepth 100000 in
set_option maxHeartbeats 2000000 in
theorem refBytes_any (s b : Int) (w : World) :
    Calls Tryd.prog 29 #[nu s, nu b] w fun e w' => ∃ v', e = .returned v' ∧ w'.ownsRow w.heap.size 5 1 v' 12 ((tw s b).map by1) ∧ Below w.heap.size w w' := by
  obtain ⟨i0, hi, hz0, hz1, hz2⟩ := info_parts info_byte
  have hs := wrap_u s
  have hb := wrap_u b
  have HT : Hid (tw s b = le (IntKind.u64.wrap s) 4 ++ le (IntKind.u64.wrap b) 8) := rfl
  generalize tw s b = T at *
  go_enter Tryd.func29, Tryd.ntmps29
  go_wp2
  go_loopw [5, 6] (fun pv iv wr => ∃ k : Nat, k ≤ 4 ∧ iv = .int .i64 k ∧ wr.ownsRow w.heap.size 5 1 pv k ((le (IntKind.u64.wrap s) k).map by1) ∧ Below w.heap.size w wr) (fun _ iv _ => 4 - (intOf iv).toNat)
  case atStart => exact ⟨0, Nat.zero_le _, rfl, World.ownsRow_nil _ _ _ _, Below.refl _ _⟩
  case round =>
    obtain ⟨k, hk, rfl, hown, hbel⟩ := hrel
    by_cases hp : k < 4
    · have hv := by8_val (IntKind.u64.wrap s) k
      have HS : Hid ((le (IntKind.u64.wrap s) (k + 1)).map by1 = (le (IntKind.u64.wrap s) k).map by1 ++ [.int .u8 (IntKind.u64.wrap s / 2 ^ (8 * k) % 256)]) := by
        show _ = _
        rw [le_succ, List.map_append, ← hv]; rfl
      clear hv
      go_wp2_with (at_builtin; refine wpList_append_own _ rfl _ _ 22 rfl w.heap.size 5 i0 (.int .u8 0) 1 1 Tryd.underlying22 hi hz0 hz1 hz2 rfl (by decide) _ _ _ rfl (hown.alloc _) ⟨wr.heap.size, 0, none⟩ 1 1 [.int .u8 (IntKind.u64.wrap s / 2 ^ (8 * k) % 256)] rfl rfl (cell_one_new _ _ _) (by simp [Value.oneCell']) (by unfold maxLen; omega) (by omega) (by have := hbel.size; simp; omega) ?_; intro v' w4 hown4 hgrow _; have hbel4 : Below w.heap.size w w4 := Below.grown (hbel.alloc (by exact hbel.size) _) hgrow (by have := hbel.size; simp; omega) (fun k hk => (hown.lt k hk).1))
      go_roundw
      case rel => exact ⟨k + 1, by omega, by go_num, by rw [HS.out]; exact hown4, hbel4⟩
      case measure => simp [intOf]; omega
    · obtain rfl : k = 4 := by omega
      simp only [Int.cast_ofNat_Int]
      rename World => w1
      go_wp2
      go_loopw [5, 7] (fun pv iv wr => ∃ k : Nat, k ≤ 8 ∧ iv = .int .i64 k ∧ wr.ownsRow w.heap.size 5 1 pv (4 + k) ((le (IntKind.u64.wrap s) 4 ++ le (IntKind.u64.wrap b) k).map by1) ∧ Below w.heap.size w wr) (fun _ iv _ => 8 - (intOf iv).toNat)
      case atStart => exact ⟨0, Nat.zero_le _, rfl, by simpa [le] using hown, hbel⟩
      case round =>
        obtain ⟨k, hk2, rfl, hown2, hbel2⟩ := hrel
        by_cases hp2 : k < 8
        · have hv := by8_val (IntKind.u64.wrap b) k
          have HS : Hid ((le (IntKind.u64.wrap s) 4 ++ le (IntKind.u64.wrap b) (k + 1)).map by1 = (le (IntKind.u64.wrap s) 4 ++ le (IntKind.u64.wrap b) k).map by1 ++ [.int .u8 (IntKind.u64.wrap b / 2 ^ (8 * k) % 256)]) := by
            show _ = _
            rw [le_succ (IntKind.u64.wrap b) k, ← List.append_assoc, List.map_append, ← hv]; rfl
          clear hv
          go_wp2_with (at_builtin; refine wpList_append_own _ rfl _ _ 22 rfl w.heap.size 5 i0 (.int .u8 0) 1 1 Tryd.underlying22 hi hz0 hz1 hz2 rfl (by decide) _ _ _ rfl (hown2.alloc _) ⟨wr.heap.size, 0, none⟩ 1 1 [.int .u8 (IntKind.u64.wrap b / 2 ^ (8 * k) % 256)] rfl rfl (cell_one_new _ _ _) (by simp [Value.oneCell']) (by unfold maxLen; omega) (by omega) (by have := hbel2.size; simp; omega) ?_; intro v' w4 hown4 hgrow _; have hbel4 : Below w.heap.size w w4 := Below.grown (hbel2.alloc (by exact hbel2.size) _) hgrow (by have := hbel2.size; simp; omega) (fun k hk => (hown2.lt k hk).1))
          go_roundw
          case rel => exact ⟨k + 1, by omega, by go_num, by rw [HS.out]; exact hown4, hbel4⟩
          case measure => simp [intOf]; omega
        · obtain rfl : k = 8 := by omega
          simp only [Int.cast_ofNat_Int]
          go_wp2
          go_ret
          exact ⟨_, rfl, by rw [HT.out]; exact hown2, hbel2⟩

set_option maxHeartbeats 1000000 in
theorem refOf_any (kl : List UInt8) (s b : Int) (w : World) (hkl : kl.length = 16) :
    Calls Tryd.prog 15 #[.string (tx kl), nu s, nu b] w fun e w' => e = .returned (u8v (goes 12 (keyV (k0L kl) (k1L kl)) (tw s b))) ∧ Below w.heap.size w w' := by
  have c1 := refBytes_any s b w
  have hs : (tx kl).size = 16 := hkl
  have c2 : Hid (∀ v wx, RdB wx v (tw s b) → Calls Tryd.prog 11 #[.string (tx kl), v] wx fun e w' => e = .returned (u8v (goes 12 (keyV (k0L kl) (k1L kl)) (tw s b))) ∧ Below wx.heap.size wx w') := fun v wx hR => by
    have := refSum_any kl v (tw s b) wx hkl hR (by rw [tw_len]; decide)
    rw [tw_len] at this
    exact this
  have hTl := Hid.mk' (tw_len s b)
  generalize goes 12 (keyV (k0L kl) (k1L kl)) (tw s b) = G at *
  generalize tx kl = kb at *
  go_enter Tryd.func15, Tryd.ntmps15
  go_wp2_with fail
  refine c1.mono ?_
  rintro e w1 ⟨v1, rfl, hown, hb1⟩
  have c3 := c2.out v1 w1 (own_rd' hown hTl.out)
  clear hown c2 c1
  go_wp2_with fail
  refine c3.mono ?_
  rintro e w2 ⟨rfl, hb2⟩
  go_wp2
  go_ret
  exact ⟨rfl, below_to hb1 hb2⟩

set_option maxHeartbeats 1000000 in
theorem tagOf_walk (kl : List UInt8) (s b : Int) (x y : Nat) (w : World) (hkl : kl.length ≤ maxLen) (hs : -9223372036854775808 ≤ s ∧ s ≤ 9223372036854775807) (hb : -9223372036854775808 ≤ b ∧ b ≤ 9223372036854775807) (hx : x < 18446744073709551616) (hy : y < 18446744073709551616) (hB : Beg w) (hE : Er.Handle w) :
    Calls Tryd.prog 4 #[.string (tx kl), nu s, nu b, u8v x, u8v y] w fun e w' => e = .returned (.bool true) ∧ Below w.heap.size w w' := by
  have cS := same_any (x : Int) (y : Int)
  have cS2 := same_any (x : Int) (x : Int)
  have hxx : ((x : Int) == (x : Int)) = true := by simp
  rw [hxx] at cS2
  have hz : (tx kl).size = kl.length := rfl
  obtain ⟨q, hq⟩ : ∃ q, ((x : Int) == (y : Int)) = q := ⟨_, rfl⟩
  rw [hq] at cS
  have hqq : (q != q) = false := by cases q <;> rfl
  clear hs hb hx hy hxx
  generalize (x : Int) = xi at *
  generalize (y : Int) = yi at *
  by_cases h16 : kl.length = 16
  · have hnb : ((kl.length : Int) != 16) = false := by rw [bne_eq_false_iff_eq]; omega
    have cN : Hid (∀ w, Beg w → _) := fun w hB => new_ok kl w h16 hB
    have cO : Hid (∀ w, _) := fun w => refOf_any kl s b w h16
    generalize keyV (k0L kl) (k1L kl) = kv at *
    generalize tx kl = kb at *
    go_enter Tryd.func4, Tryd.ntmps4
    go_wp2_with fail
    refine (cS _).mono ?_
    rintro e w1 ⟨rfl, hw⟩
    subst w1
    go_wp2_with fail
    refine (cS2 _).mono ?_
    rintro e w1 ⟨rfl, hw⟩
    subst w1
    go_wp2_with fail
    refine (cN.out _ hB).mono ?_
    rintro e w1 ⟨gk, rfl, hgk, hK, hb1⟩
    have c2 := keyOf_any kv gk s b w1 hK
    generalize goes 12 kv (tw s b) = G at *
    go_wp2_with fail
    refine c2.mono ?_
    rintro e w2 ⟨rfl, hb2⟩
    go_wp2_with fail
    refine (cO.out _).mono ?_
    rintro e w3 ⟨rfl, hb3⟩
    go_wp2
    go_ret
    exact ⟨rfl, below_to (below_to hb1 hb2) hb3⟩
  · have hnb : ((kl.length : Int) != 16) = true := by rw [bne_iff_ne]; omega
    have cN := new_no kl w h16 hkl
    have cP := Er.plain_no 14 14 (by omega) (by omega) w hE
    unfold Er.noV at cN cP
    generalize tx kl = kb at *
    go_enter Tryd.func4, Tryd.ntmps4
    go_wp2_with fail
    refine (cS _).mono ?_
    rintro e w1 ⟨rfl, hw⟩
    subst w1
    go_wp2_with fail
    refine (cS2 _).mono ?_
    rintro e w1 ⟨rfl, hw⟩
    subst w1
    go_wp2_with fail
    refine cN.mono ?_
    rintro e w1 ⟨rfl, hw⟩
    subst w1
    go_wp2_with fail
    refine cP.mono ?_
    rintro e w1 ⟨rfl, hb1⟩
    go_wp2
    go_ret
    exact ⟨rfl, hb1⟩
end Tg
end Go.Proofs.YtfflmpmhacfijaaDoor
