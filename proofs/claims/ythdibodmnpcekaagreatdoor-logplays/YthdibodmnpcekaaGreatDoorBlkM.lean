/- RnumR, BasR, BlkR, CvR, OneR, SayR, RowsR, in one text. -/
import Derived.Test.YthdibodmnpcekaaGreatDoorRecM
import Derived.Test.YthdibodmnpcekaaGreatDoorRowM
import Derived.Test.YthdibodmnpcekaaGreatDoorOwn
import Derived.Test.YthdibodmnpcekaaGreatDoorPacM
import Derived.Test.YthdibodmnpcekaaGreatDoorFoot
import Derived.Test.YthdibodmnpcekaaGreatDoorNamM
import Derived.Laws.IdiomCopy
import Derived.Laws.IdiomStrings
import Derived.ArgAppend
import Derived.Deep.RegionHeld3
import Derived.RangeFuncBox
/- The document's numbers as bytes. -/
namespace Go.Proofs.YthdibodmnpcekaaGreatDoor
set_option linter.ambiguousOpen false
open Go.RowKit
namespace Rc
open Sm
set_option linter.unusedSimpArgs false
set_option linter.unusedVariables false

theorem lo_snoc (v n : Nat) : lo v (n + 1) = lo v n ++ [UInt8.ofNat (v / 256 ^ n % 256)] := by
  induction n generalizing v with
  | zero => simp [lo]
  | succ n ih =>
    rw [lo, ih, lo, List.cons_append, Nat.div_div_eq_div_mul]
    congr 5
    rw [Nat.pow_succ, Nat.mul_comm]

set_option maxRecDepth 100000 in
set_option maxHeartbeats 1000000 in
theorem number_any (v n : Nat) (w : World) (hv : v < 18446744073709551616) (hn : n ≤ 8) :
    Calls Tryz.prog 79 #[.int .u64 (v : Int), nu (n : Int)] w fun e w' => ∃ x, e = .returned x ∧ w'.ownsRow w.heap.size 5 1 x n ((lo v n).map by1) ∧ Below w.heap.size w w' := by
  obtain ⟨i0, ji, hz0, hz1, hz2⟩ := info_parts info_byte
  go_enter Tryz.func79, Tryz.ntmps79
  go_wp2
  go_loopw [5, 6] (fun lv iv wr => ∃ (k : Nat), k ≤ n ∧ iv = nu k ∧ Hid (wr.ownsRow w.heap.size 5 1 lv k ((lo v k).map by1)) ∧ Hid (Below w.heap.size w wr)) (fun _ iv _ => n - (intOf iv).toNat)
  case atStart => exact ⟨0, by omega, rfl, World.ownsRow_nil _ _ _ _, Below.refl _ _⟩
  case round =>
    obtain ⟨k, hk, rfl, hO, hB⟩ := hrel
    by_cases hc : k < n
    · have hc' : (k : Int) < (n : Int) := by omega
      have hmx : Hid (k + 1 ≤ maxLen) := by show _ ≤ _; unfold maxLen; omega
      have hby : Hid ((k + 1) * 1 ≤ 140737488355328) := by show _ ≤ _; omega
      have hws : Hid (w.heap.size ≤ wr.heap.size) := hB.out.size
      obtain ⟨y, hy⟩ : ∃ y : Nat, v / 256 ^ k % 256 = y := ⟨_, rfl⟩
      have hyI : (v : Int) / 2 ^ (8 * k) % 256 = (y : Int) := by
        rw [← hy, show (256 : Nat) ^ k = 2 ^ (8 * k) by rw [Nat.pow_mul]]
        push_cast
        rfl
      have hyl : y < 256 := by omega
      have hb1 : Hid (by1 (UInt8.ofNat y) = .int .u8 (y : Int)) := by
        show Value.int .u8 _ = _
        rw [UInt8.toNat_ofNat_of_lt' (by omega : y < 2 ^ 8)]
      have hS : Hid ((lo v (k + 1)).map by1 = (lo v k).map by1 ++ [.int .u8 (y : Int)]) := by
        show _ = _
        rw [lo_snoc, hy, List.map_append, ← hb1.out]
        rfl
      have hone : Hid (∀ x ∈ [Value.int .u8 (y : Int)], x.oneCell' = true) := by intro x hx; simp at hx; subst hx; rfl
      clear hy hb1
      go_wp2_with (at_builtin; refine wpList_append_own _ rfl _ _ 46 rfl w.heap.size 5 i0 (.int .u8 0) 1 1 Tryz.underlying46 ji hz0 hz1 hz2 rfl (by decide) _ _ _ rfl (hO.out.alloc _) ⟨wr.heap.size, 0, none⟩ 1 1 [.int .u8 (y : Int)] rfl rfl (cell_one_new _ _ _) hone.out hmx.out hby.out (by have := hws.out; simp; omega) ?_; intro v' w4 hown4 hgrow _; rw [← hS.out] at hown4; have hO4 := Hid.mk' hown4; have hB4 : Hid (Below w.heap.size w w4) := Below.grown (hB.out.alloc hws.out _) hgrow (by have := hws.out; simp; omega) (fun k hk => (hO.out.lt k hk).1); clear hown4 hgrow)
      go_wp2
      go_roundw
      case rel => exact ⟨k + 1, by omega, by go_num, hO4, hB4⟩
      case measure => simp [intOf]; omega
    · obtain rfl : k = n := by omega
      go_wp2
      go_ret
      exact ⟨_, rfl, hO.out, hB.out⟩
end Rc
end Go.Proofs.YthdibodmnpcekaaGreatDoor
/- What the texts on records need of rows and errors. -/
namespace Go.Proofs.YthdibodmnpcekaaGreatDoor
set_option linter.ambiguousOpen false
open Go.RowKit
namespace Rc
open Sm
set_option linter.unusedVariables false

theorem own_mono {w : World} {b c : Nat} {e : TypeId} {size : Nat} {v : Value} {n : Nat} {xs : List Value} (h : w.ownsRow b e size v n xs) (hc : c ≤ b) : w.ownsRow c e size v n xs := by
  refine ⟨h.1, ?_⟩
  rcases h.2 with h0 | ⟨g, cap, cur, rfl, hbg, rest⟩
  · exact .inl h0
  · exact .inr ⟨g, cap, cur, rfl, Nat.le_trans hc hbg, rest⟩

/-- An error without a place, and none. -/
@[reducible] def noE (n : Int) : Value := .iface 58 (.int .i64 n)

def errE : Nat → Value
  | 0 => .nilIface
  | n + 1 => noE ((n + 1 : Nat) : Int)

end Rc
end Go.Proofs.YthdibodmnpcekaaGreatDoor
/- The document's blocks of a record. -/
namespace Go.Proofs.YthdibodmnpcekaaGreatDoor
set_option linter.ambiguousOpen false
open Go.RowKit
namespace Rc
open Sm Pk
set_option linter.unusedSimpArgs false
set_option linter.unusedVariables false

/-- What has been gathered: a row of this call's own. -/
structure Ga (w0 w : World) (v : Value) (l : List UInt8) (n : Nat) : Prop where
  own : w.ownsRow w0.heap.size 5 1 v n (l.map by1)
  len : l.length = n
  bel : Below w0.heap.size w0 w

theorem Ga.shape {w0 w : World} {v : Value} {l : List UInt8} {n : Nat} (h : Ga w0 w v l n) : ∃ a cap, v = .slice a n cap := by
  obtain ⟨a, cap, e, _⟩ := Nm.own_shape h.own
  exact ⟨a, cap, e⟩

theorem Ga.rd {w0 w : World} {v : Value} {l : List UInt8} {n : Nat} (h : Ga w0 w v l n) : RdB w v l := own_rd' h.own h.len

theorem Ga.below {w0 w w' : World} {v : Value} {l : List UInt8} {n : Nat} (h : Ga w0 w v l n) (hb : Below w.heap.size w w') : Ga w0 w' v l n :=
  ⟨(Ft.Keep.of_below (F := fun _ => False) hb).own h.own (fun _ _ h => h), h.len, h.bel.trans (hb.mono h.bel.size)⟩

theorem Ga.more {w0 w w4 : World} {v v' : Value} {l m L : List UInt8} {n N : Nat} (h : Ga w0 w v l n) (hg : w.grownBy w4 v.ownBlock) (hL : l ++ m = L) (hN : n + m.length = N) (ho : w4.ownsRow w0.heap.size 5 1 v' (n + m.length) (l.map by1 ++ m.map by1)) : Ga w0 w4 v' L N := by
  subst hL
  subst hN
  refine ⟨?_, by rw [List.length_append, h.len], Below.grown h.bel hg h.bel.size (fun k hk => (h.own.lt k hk).1)⟩
  rw [List.map_append]
  exact ho

/-- Another row stays, where one was appended to. -/
theorem Ga.other {w0 w w4 : World} {v u : Value} {l : List UInt8} {n : Nat} (h : Ga w0 w v l n) (hg : w.grownBy w4 u.ownBlock) (hs : Nm.Sep v u) (hu : ∀ k, u.ownBlock = some k → w0.heap.size ≤ k) : Ga w0 w4 v l n := by
  refine ⟨h.own.kept hg ?_, h.len, Below.grown h.bel hg h.bel.size hu⟩
  cases hv : v.ownBlock with
  | none => exact .inl rfl
  | some b => exact .inr (fun e => hs b hv e.symm)

theorem min_two (a b : Int) (w : World) : (Builtin.min_ #[3, 3] 3 #[.int .i64 a, .int .i64 b]).run Tryz.prog w = .ok (.int .i64 (if b < a then b else a)) w := run_min_int2 ..

theorem restB_at (f : Nat) (q : List UInt8) (i : Nat) (hf : q.length ≤ f) : (restB q)[i]? = if 255 * i < q.length then some (99 :: (q.drop (255 * i)).take 255) else none := by
  induction f generalizing q i with
  | zero =>
    have : q = [] := List.length_eq_zero_iff.1 (by omega)
    subst this
    simp [restB_nil]
  | succ f ih =>
    by_cases hq : q = []
    · subst hq
      simp [restB_nil]
    · have h0 : 0 < q.length := List.length_pos_iff.2 hq
      rw [restB_cons q hq]
      cases i with
      | zero => simp [h0]
      | succ i =>
        rw [List.getElem?_cons_succ, ih (q.drop 255) i (by rw [List.length_drop]; omega), List.length_drop, List.drop_drop]
        by_cases hc : 255 * (i + 1) < q.length
        · rw [if_pos hc, if_pos (by omega), show 255 + 255 * i = 255 * (i + 1) by omega]
        · rw [if_neg hc, if_neg (by omega)]

theorem tx_cons (l : List UInt8) : (⟨#[99]⟩ : ByteArray) ++ tx l = tx (99 :: l) := by
  apply ByteArray.ext
  simp [tx]

set_option maxRecDepth 100000 in
set_option maxHeartbeats 4000000 in
theorem refblocks (ep : Nat) (v : Value) (p : List UInt8) (w : World) (hep : ep < 4294967296) (hR : RdB w v p) (hz : Nz v) (hl : p.length ≤ 512) :
    Calls Tryz.prog 71 #[.int .u32 (ep : Int), v] w fun e w' => ∃ x, e = .returned x ∧ w'.ownsRow w.heap.size 9 1 x (blocks ep p).length ((blocks ep p).map Nm.txt) ∧ Below w.heap.size w w' := by
  obtain ⟨i0, ji, hz0, hz1, hz2⟩ := info_parts (show (Tryz.prog.info? 9).map (fun i => (i.zero, i.size, i.bytes)) = some (some (.string ⟨#[]⟩), 1, 16) by kernel_rfl)
  have HR := Hid.mk' hR
  have HZ := Hid.mk' hz
  obtain ⟨n, hn⟩ : ∃ n, p.length = n := ⟨_, rfl⟩
  obtain ⟨L1, hL1⟩ : ∃ L, [104] ++ lo ep 4 = L := ⟨_, rfl⟩
  obtain ⟨L2, hL2⟩ : ∃ L, L1 ++ lo n 2 = L := ⟨_, rfl⟩
  obtain ⟨A, hA⟩ : ∃ L, L2 ++ p = L := ⟨_, rfl⟩
  obtain ⟨c, hc⟩ : ∃ c, crc A = c := ⟨_, rfl⟩
  obtain ⟨L3, hL3⟩ : ∃ L, L2 ++ lo c 4 = L := ⟨_, rfl⟩
  obtain ⟨k0, hk0⟩ : ∃ k, min 245 n = k := ⟨_, rfl⟩
  obtain ⟨L4, hL4⟩ : ∃ L, L3 ++ p.take k0 = L := ⟨_, rfl⟩
  have hcl : c < 4294967296 := by
    rw [← hc]
    unfold crc
    omega
  have n1 : L1.length = 5 := by rw [← hL1]; simp [lo_len]
  have n2 : L2.length = 7 := by rw [← hL2, List.length_append, n1, lo_len]
  have n3 : L3.length = 11 := by rw [← hL3, List.length_append, n2, lo_len]
  have hF : Hid (firstB ep p = L4) := by
    show _ = _
    rw [← hL4, ← hL3, ← hc, ← hA, ← hL2, ← hL1, ← hk0, firstB, topB, headB, hn]
    congr 1
    rcases Nat.le_total 245 n with h | h
    · rw [Nat.min_eq_left h]
    · rw [Nat.min_eq_right h, List.take_of_length_le (by omega), List.take_of_length_le (by omega)]
  have c1 := Hid.mk' (fun wx => number_any ep 4 wx (by omega) (by omega))
  have c2 := Hid.mk' (fun wx => number_any n 2 wx (by omega) (by omega))
  have c5 := Hid.mk' (fun wx => number_any c 4 wx (by omega) (by omega))
  have c3 := Hid.mk' (fun v wx h => copyB_any v L2 wx h (by omega))
  have c4 : Hid (∀ v wx, RdB wx v A → Calls Tryz.prog 81 #[v] wx fun e w' => e = .returned (.int .u32 (c : Int)) ∧ w' = wx) := fun v wx h => by
    have := refof_any v A wx h
    rw [hc] at this
    exact this
  have hmin : ∀ wx, (Builtin.min_ #[3, 3] 3 #[.int .i64 245, .int .i64 (n : Int)]).run Tryz.prog wx = .ok (.int .i64 (k0 : Int)) wx := fun wx => by
    rw [min_two, ← hk0]
    congr 2
    split <;> omega
  obtain ⟨a, cap, rfl, hc1, hc2, _⟩ := id hR
  rw [hn] at hc1 hl ⊢
  have hk0n : k0 ≤ n := by omega
  have hsl := fun wx => slice_to a n cap k0 (by omega) wx
  have HRt : Hid (∀ wx, RdB wx (.slice a n cap) p → RdB wx (.slice a k0 cap) (p.take k0)) := fun wx h => by
    rw [← hn] at h
    exact h.take k0 (by omega)
  rw [hn] at HR
  obtain ⟨r, hr⟩ : ∃ r, (restB (p.drop 245)).length = r := ⟨_, rfl⟩
  have hrl : r = (n - 245 + 254) / 255 := by
    rw [← hr, restB_len p.length _ (by rw [List.length_drop]; omega), List.length_drop, hn]
  have hat : Hid (∀ i, i < r → (restB (p.drop 245))[i]? = some (99 :: (p.drop (245 + 255 * i)).take (min (245 + 255 * i + 255) n - (245 + 255 * i)))) := fun i hi => by
    have := restB_at p.length (p.drop 245) i (by rw [List.length_drop]; omega)
    rw [if_pos (by rw [List.length_drop]; omega), List.drop_drop] at this
    rw [this]
    congr 2
    rcases Nat.le_total (245 + 255 * i + 255) n with h | h
    · rw [Nat.min_eq_left h]
      congr 1
      omega
    · rw [Nat.min_eq_right h, List.take_of_length_le (by rw [List.length_drop]; omega), List.take_of_length_le (by rw [List.length_drop]; omega)]
  have HRL := Hid.mk' hr
  have HFB : Hid (blocks ep p = L4 :: restB (p.drop 245)) := by
    show _ = _
    rw [blocks, hF.out]
  have hk0' : Hid ((k0 : Int) = ((min (245 + 255 * 0) n : Nat) : Int)) := by
    show _ = _
    rw [← hk0]
  have HRd : Hid (∀ wx k j, k ≤ j → j ≤ n → RdB wx (.slice a n cap) p → RdB wx (.slice (further a cap k) (j - k) (cap - k)) ((p.drop k).take (j - k))) := fun wx k j h1 h2 h => by
    rw [← hn] at h
    have h3 := h.drop k (by omega)
    rw [show p.length - k = (p.drop k).length by rw [List.length_drop]] at h3
    exact h3.take (j - k) (by rw [List.length_drop]; omega)
  clear hr
  have HL1 := Hid.mk' hL1
  have HL2 := Hid.mk' hL2
  have HA := Hid.mk' hA
  have HL3 := Hid.mk' hL3
  have HL4 := Hid.mk' hL4
  have HNP := Hid.mk' hn
  have m1 : Hid (1 + (lo ep 4).length ≤ 140737488355328) := by show _ ≤ _; rw [lo_len]; decide
  have m2 : Hid (5 + (lo n 2).length ≤ 140737488355328) := by show _ ≤ _; rw [lo_len]; decide
  have m3 : Hid (7 + p.length ≤ 140737488355328) := by show _ ≤ _; omega
  have m4 : Hid (7 + (lo c 4).length ≤ 140737488355328) := by show _ ≤ _; rw [lo_len]; decide
  have m5 : Hid (11 + (p.take k0).length ≤ 140737488355328) := by show _ ≤ _; rw [List.length_take]; omega
  have p1 : Hid (1 + (lo ep 4).length = 5) := by show _ = _; rw [lo_len]
  have p2 : Hid (5 + (lo n 2).length = 7) := by show _ = _; rw [lo_len]
  have p3 : Hid (7 + p.length = 7 + n) := by show _ = _; rw [hn]
  have p4 : Hid (7 + (lo c 4).length = 11) := by show _ = _; rw [lo_len]
  have p5 : Hid (11 + (p.take k0).length = 11 + k0) := by show _ = _; rw [List.length_take]; omega
  have HZK : Hid (Nz (.slice a k0 cap)) := by
    rcases hz with h | ⟨ad, m, c', h⟩
    · obtain ⟨rfl, h0, rfl⟩ : a = none ∧ p.length = 0 ∧ cap = 0 := by simpa using h
      exact .inl (by rw [show k0 = 0 by omega])
    · obtain ⟨rfl, h0, rfl⟩ : a = some ad ∧ p.length = m ∧ cap = c' := by simpa using h
      exact .inr ⟨_, _, _, rfl⟩
  have G0 : Hid (Ga w (w.alloc (.cells #[.int .u8 104] 5)) (.slice (some ⟨w.heap.size, 0, none⟩) 1 1) [104] 1) := ⟨World.ownsRow_lit (size := 1) w #[.int .u8 104] 1 (Nat.le_refl _) (by decide) rfl, rfl, (Below.refl _ _).alloc (Nat.le_refl _) _⟩
  rw [hn] at HZ
  clear hR hz hL1 hL2 hA hc hL3 hL4 n1 hk0 hn
  go_enter Tryz.func71, Tryz.ntmps71
  go_wp2_with fail
  refine (c1.out _).mono ?_
  rintro e x1 ⟨y1, rfl, ho1, hb1⟩
  have HG1 := Hid.mk' (G0.out.below hb1)
  have HR1 : Hid (RdB x1 y1 (lo ep 4)) := own_rd' ho1 (lo_len _ _)
  have HZ1 : Hid (Nz y1) := nz_own ho1
  obtain ⟨a1, cp1, rfl, _⟩ := Nm.own_shape ho1
  clear ho1 hb1 c1 G0
  go_wp2_with (at_builtin; refine wpList_append_rowP rfl _ _ rfl w.heap.size 1 _ _ _ (lo ep 4) rfl rfl HG1.out.own HR1.out HZ1.out m1.out HG1.out.bel.size ?_; intro v2 w2 oo og ov; have HG2 : Hid (Ga w w2 v2 L1 5) := HG1.out.more og HL1.out p1.out oo; obtain ⟨ga2, gc2, rfl⟩ := HG2.out.shape; clear oo og ov)
  refine (c2.out _).mono ?_
  rintro e x2 ⟨y2, rfl, ho2, hb2⟩
  have HG3 := Hid.mk' (HG2.out.below hb2)
  have HR2 : Hid (RdB x2 y2 (lo n 2)) := own_rd' ho2 (lo_len _ _)
  have HZ2 : Hid (Nz y2) := nz_own ho2
  obtain ⟨a2, cp2, rfl, _⟩ := Nm.own_shape ho2
  clear ho2 hb2 c2 HG2 HG1 HR1 HZ1
  go_wp2_with (at_builtin; refine wpList_append_rowP rfl _ _ rfl w.heap.size 5 _ _ _ (lo n 2) rfl rfl HG3.out.own HR2.out HZ2.out m2.out HG3.out.bel.size ?_; intro v3 w3 oo og ov; have HG4 : Hid (Ga w w3 v3 L2 7) := HG3.out.more og HL2.out p2.out oo; obtain ⟨ga4, gc4, rfl⟩ := HG4.out.shape; clear oo og ov)
  refine (c3.out _ _ HG4.out.rd).mono ?_
  rintro e x4 ⟨y4, rfl, ho4, hb4⟩
  rw [n2] at ho4
  have HG5 := Hid.mk' (HG4.out.below hb4)
  have HQ5 : Hid (Ga w x4 y4 L2 7) := ⟨own_mono ho4 HG4.out.bel.size, n2, HG5.out.bel⟩
  have HS5 : Hid (Nm.Sep (.slice ga4 7 gc4) y4) := fun b h1 h2 => by
    have q1 := (HG4.out.own.lt b h1).2
    have q2 := (ho4.lt b h2).1
    omega
  obtain ⟨a4, cp4, rfl, _⟩ := Nm.own_shape ho4
  have HRp4 := Hid.mk' (HR.out.below HG5.out.bel)
  clear ho4 hb4 c3 HG4 HG3 HR2 HZ2
  go_wp2_with (at_builtin; refine wpList_append_rowP rfl _ _ rfl w.heap.size 7 _ _ _ p rfl rfl HQ5.out.own HRp4.out HZ.out m3.out HQ5.out.bel.size ?_; intro v5 w5 oo og ov; have HQ6 : Hid (Ga w w5 v5 A (7 + n)) := HQ5.out.more og HA.out p3.out oo; have HG6 : Hid (Ga w w5 (.slice ga4 7 gc4) L2 7) := HG5.out.other og HS5.out (fun k hk => (HQ5.out.own.lt k hk).1); obtain ⟨ga6, gc6, rfl⟩ := HQ6.out.shape; clear oo og ov)
  refine (c4.out _ _ HQ6.out.rd).mono ?_
  rintro e x6 ⟨rfl, rfl⟩
  clear c4 HQ5 HG5 HS5 HRp4
  go_wp2_with fail
  refine (c5.out _).mono ?_
  rintro e x7 ⟨y7, rfl, ho7, hb7⟩
  have HG7 := Hid.mk' (HG6.out.below hb7)
  have HR7 : Hid (RdB x7 y7 (lo c 4)) := own_rd' ho7 (lo_len _ _)
  have HZ7 : Hid (Nz y7) := nz_own ho7
  obtain ⟨a7, cp7, rfl, _⟩ := Nm.own_shape ho7
  clear ho7 hb7 c5 HG6 HQ6
  go_wp2_with (first | (at_builtin; refine wpList_append_rowP rfl _ _ rfl w.heap.size 7 _ _ _ (lo c 4) rfl rfl HG7.out.own HR7.out HZ7.out m4.out HG7.out.bel.size ?_; intro v8 w8 oo og ov; have HG8 : Hid (Ga w w8 v8 L3 11) := HG7.out.more og HL3.out p4.out oo; obtain ⟨ga8, gc8, rfl⟩ := HG8.out.shape; have HR8 := Hid.mk' (HRt.out _ (HR.out.below HG8.out.bel)); clear oo og ov) | (at_builtin; refine wpList_append_rowP rfl _ _ rfl w.heap.size 11 _ _ _ (p.take k0) rfl rfl HG8.out.own HR8.out HZK.out m5.out HG8.out.bel.size ?_; intro v9 w9 oo og ov; have HG9 : Hid (Ga w w9 v9 L4 (11 + k0)) := HG8.out.more og HL4.out p5.out oo; obtain ⟨ga9, gc9, rfl⟩ := HG9.out.shape; have hcv := conv_rd HG9.out.rd; clear oo og ov) | fail)
  have HO0 : Hid ((w9.alloc (.cells #[.string (tx L4)] 9)).ownsRow w.heap.size 9 1 (.slice (some ⟨w9.heap.size, 0, none⟩) 1 1) (1 + 0) ((L4 :: (restB (p.drop 245)).take 0).map Nm.txt)) := World.ownsRow_lit (size := 1) w9 #[.string (tx L4)] 1 HG9.out.bel.size (by decide) rfl
  have HB0 : Hid (Below w.heap.size w (w9.alloc (.cells #[.string (tx L4)] 9))) := HG9.out.bel.alloc HG9.out.bel.size _
  clear hcv HG9 HG8 HR8 HG7 HR7 HZ7 hmin hsl HRt HZK m1 m2 m3 m4 m5 p1 p2 p3 p4 p5
  go_loopw [8, 9, 10, 11] (fun kv lv iv _ wr => ∃ i : Nat, i ≤ r ∧ iv = nu (i : Int) ∧ kv = nu ((min (245 + 255 * i) n : Nat) : Int) ∧ Hid (wr.ownsRow w.heap.size 9 1 lv (1 + i) ((L4 :: (restB (p.drop 245)).take i).map Nm.txt)) ∧ Hid (Below w.heap.size w wr)) (fun _ _ iv _ _ => r - (intOf iv).toNat)
  case atStart => exact ⟨0, Nat.zero_le _, rfl, by rw [hk0'.out], HO0, HB0⟩
  case round =>
  clear HO0 HB0
  obtain ⟨i, hi, rfl, rfl, hO, hB⟩ := hrel
  by_cases hir : i < r
  · have hkn : 245 + 255 * i < n := by omega
    obtain ⟨k, hk⟩ : ∃ k, 245 + 255 * i = k := ⟨_, rfl⟩
    have HAT := Hid.mk' (hat.out i hir)
    rw [hk] at HAT hkn
    rw [hk, Nat.min_eq_left (by omega : k ≤ n)]
    have hiI : (i : Int) < (n : Int) := by omega
    have hkI : (k : Int) < (n : Int) := by omega
    have hkM : (k : Int) + 255 ≤ 1000 := by omega
    obtain ⟨j, hj⟩ : ∃ j, min (k + 255) n = j := ⟨_, rfl⟩
    rw [hj] at HAT
    have hjI : Hid (((min (245 + 255 * (i + 1)) n : Nat) : Int) = (j : Int)) := by
      show _ = _
      rw [← hj, ← hk]
      congr 2
    have hmin : ∀ wx, (Builtin.min_ #[3, 3] 3 #[.int .i64 ((k : Int) + 255), .int .i64 (n : Int)]).run Tryz.prog wx = .ok (.int .i64 (j : Int)) wx := fun wx => by
      rw [min_two, ← hj]
      congr 2
      split <;> omega
    have hjn : j ≤ n := by omega
    have hkj : k ≤ j := by omega
    have hsl := fun wx => slice_midP a n cap k j hkj (by omega) wx
    have hrd := HRd.out wr k j hkj hjn (HR.out.below hB.out)
    have hcv := conv_rd hrd
    obtain ⟨u, hu⟩ : ∃ u, (p.drop k).take (j - k) = u := ⟨_, rfl⟩
    have hul : u.length ≤ 512 := by
      rw [← hu, List.length_take]
      omega
    rw [hu] at hcv HAT
    obtain ⟨f, hf⟩ : ∃ f, tx u = f := ⟨_, rfl⟩
    have hfs : f.size = u.length := by
      rw [← hf]
      rfl
    have HF2 : Hid ((⟨#[99]⟩ : ByteArray) ++ f = tx (99 :: u)) := by
      show _ = _
      rw [← hf]
      exact tx_cons u
    rw [hf] at hcv
    have hfs2 : f.size ≤ 512 := by omega
    obtain ⟨a', ha'⟩ : ∃ x, further a cap k = x := ⟨_, rfl⟩
    obtain ⟨d', hd'⟩ : ∃ x, j - k = x := ⟨_, rfl⟩
    obtain ⟨c', hc'⟩ : ∃ x, cap - k = x := ⟨_, rfl⟩
    rw [ha', hd', hc'] at hcv
    simp only [ha', hd', hc'] at hsl
    clear ha' hd' hc' hrd hu hf hfs hk hj
    obtain ⟨F2, hF2⟩ : ∃ x, (⟨#[99]⟩ : ByteArray) ++ f = x := ⟨_, rfl⟩
    rw [hF2] at HF2
    have hS : Hid ((L4 :: (restB (p.drop 245)).take (i + 1)).map Nm.txt = (L4 :: (restB (p.drop 245)).take i).map Nm.txt ++ [.string F2]) := by
      show _ = _
      rw [List.take_add_one, HAT.out, HF2.out]
      simp
      rfl
    have hone : Hid (∀ x ∈ [Value.string F2], x.oneCell' = true) := by intro x hx; simp at hx; subst hx; rfl
    have hmx : Hid (1 + i + 1 ≤ maxLen) := by show _ ≤ _; unfold maxLen; omega
    have hby : Hid ((1 + i + 1) * 16 ≤ 140737488355328) := by show _ ≤ _; omega
    have hws : Hid (w.heap.size ≤ wr.heap.size) := hB.out.size
    clear HF2 HAT
    go_wp2_with (at_builtin; refine wpList_append_own _ rfl _ _ 63 rfl w.heap.size 9 i0 (.string ⟨#[]⟩) 1 16 Tryz.underlying63 ji hz0 hz1 hz2 rfl (by decide) _ _ _ rfl (hO.out.alloc _) ⟨wr.heap.size, 0, none⟩ 1 1 [.string F2] rfl rfl (cell_one_new _ _ _) hone.out hmx.out hby.out (by have := hws.out; simp; omega) ?_; intro v' w4 hown4 hgrow _; rw [← hS.out] at hown4; have hO4 := Hid.mk' hown4; have hB4 : Hid (Below w.heap.size w w4) := Below.grown (hB.out.alloc hws.out _) hgrow (by have := hws.out; simp; omega) (fun k hk => (hO.out.lt k hk).1); clear hown4 hgrow)
    go_wp2
    go_roundw
    case rel => exact ⟨i + 1, by omega, by go_num, by rw [hjI.out], by show World.ownsRow _ _ _ _ _ _ _; rw [← Nat.add_assoc]; exact hO4.out, hB4⟩
    case measure => simp [intOf]; omega
  · obtain rfl : i = r := by omega
    have e1 : ((min (245 + 255 * i) n : Nat) : Int) = (n : Int) := by omega
    rw [e1]
    have hOf : Hid (wr.ownsRow w.heap.size 9 1 u9 (blocks ep p).length ((blocks ep p).map Nm.txt)) := by
      have := hO.out
      rw [List.take_of_length_le (by rw [HRL.out]; exact Nat.le_refl _)] at this
      rw [HFB.out, List.length_cons, HRL.out, Nat.add_comm]
      exact this
    clear e1 hO
    by_cases hin : (i : Int) < (n : Int)
    · go_wp2
      go_ret
      exact ⟨_, rfl, hOf.out, hB.out⟩
    · go_wp2
      go_ret
      exact ⟨_, rfl, hOf.out, hB.out⟩
end Rc
end Go.Proofs.YthdibodmnpcekaaGreatDoor
/- Rows of bytes that a conversion has made: they are this call's own, though their block bears a mark; appending a text to one. -/
namespace Go.Proofs.YthdibodmnpcekaaGreatDoor
set_option linter.ambiguousOpen false
open Go.RowKit
namespace Rc
open Sm Pk
set_option linter.unusedSimpArgs false
set_option linter.unusedVariables false

/-- A row of one's own, by its cells. -/
structure OwnT (w : World) (base : Nat) (v : Value) (l : List UInt8) (g cap : Nat) : Prop where
  v : v = .slice (some ⟨g, 0, none⟩) l.length cap
  b : base ≤ g
  lt : g < w.heap.size
  le : l.length ≤ cap
  max : cap ≤ maxLen
  at_ : ∀ j (hj : j < l.length), w.cell? ⟨g, j, none⟩ = some (by1 l[j])
  there : ∀ j, j < cap → (w.cell? ⟨g, j, none⟩).isSome = true
  free : ∀ j, w.frozen? ⟨g, j, none⟩ = false ∨ cap ≤ j

/-- That, or nothing. -/
def OwnC (w : World) (base : Nat) (v : Value) (l : List UInt8) : Prop := (v = .slice none 0 0 ∧ l = []) ∨ ∃ g cap, OwnT w base v l g cap

theorem OwnC.rd {w : World} {base : Nat} {v : Value} {l : List UInt8} (h : OwnC w base v l) : RdB w v l := by
  rcases h with ⟨rfl, rfl⟩ | ⟨g, cap, h⟩
  · exact rd_nil w
  · refine ⟨_, cap, h.v, h.le, h.max, fun _ => ⟨g, 0, rfl, h.lt, fun j hj => ?_⟩⟩
    rw [Nat.zero_add]
    exact h.at_ j hj

theorem OwnC.nz {w : World} {base : Nat} {v : Value} {l : List UInt8} (h : OwnC w base v l) : Nz v := by
  rcases h with ⟨rfl, rfl⟩ | ⟨g, cap, h⟩
  · exact .inl rfl
  · exact .inr ⟨_, _, _, h.v⟩

theorem OwnC.shape {w : World} {base : Nat} {v : Value} {l : List UInt8} (h : OwnC w base v l) : ∃ a cap, v = .slice a l.length cap := by
  rcases h with ⟨rfl, rfl⟩ | ⟨g, cap, h⟩
  · exact ⟨_, _, rfl⟩
  · exact ⟨_, _, h.v⟩

theorem OwnC.lt {w : World} {base : Nat} {v : Value} {l : List UInt8} (h : OwnC w base v l) : ∀ k, v.ownBlock = some k → base ≤ k ∧ k < w.heap.size := by
  intro k hk
  rcases h with ⟨rfl, rfl⟩ | ⟨g, cap, h⟩
  · simp [Value.ownBlock] at hk
  · rw [h.v] at hk
    simp [Value.ownBlock] at hk
    subst hk
    exact ⟨h.b, h.lt⟩

theorem OwnC.below {w w' : World} {base : Nat} {v : Value} {l : List UInt8} (h : OwnC w base v l) (hb : Below w.heap.size w w') : OwnC w' base v l := by
  rcases h with ⟨rfl, rfl⟩ | ⟨g, cap, h⟩
  · exact .inl ⟨rfl, rfl⟩
  · have hc : ∀ j, w'.cell? ⟨g, j, none⟩ = w.cell? ⟨g, j, none⟩ := fun j => hb.cell (p := ⟨g, j, none⟩) h.lt
    have hbk := hb.block g h.lt
    refine .inr ⟨g, cap, h.v, h.b, Nat.lt_of_lt_of_le h.lt hb.size, h.le, h.max, fun j hj => (hc j).trans (h.at_ j hj), fun j hj => by rw [hc j]; exact h.there j hj, fun j => ?_⟩
    rcases h.free j with hf | hf
    · left
      rw [← hf]
      unfold World.frozen?
      simp only [hbk]
    · exact .inr hf

theorem own_c {w : World} {base : Nat} {v : Value} {l : List UInt8} {n : Nat} (h : w.ownsRow base 5 1 v n (l.map by1)) (hn : l.length = n) : OwnC w base v l := by
  subst hn
  rcases h.2 with ⟨rfl, h0⟩ | ⟨g, cap, cur, rfl, h1, h2, h3, h4, h5, h6⟩
  · exact .inl ⟨rfl, List.eq_nil_of_length_eq_zero h0⟩
  · refine .inr ⟨g, cap, rfl, h1, (Array.getElem?_eq_some_iff.1 h2).1, h3, h4, fun j hj => ?_, fun j hj => ?_, fun j => .inl ?_⟩
    · have := row_atB h j hj (by simpa using hj)
      rw [this, List.getElem_map]
    · have hj' : j < cur.size := by omega
      simp [World.cell?, h2, hj']
    · simp [World.frozen?, h2]

theorem setCells_grown (b : Nat) : ∀ (vs : List Value) (o : Nat) (w : World), w.grownBy (w.setCells b o vs) (some b)
  | [], _, _ => ⟨rfl, rfl, rfl, Nat.le_refl _, fun _ _ _ => rfl⟩
  | v :: r, o, w => by
    have ih := setCells_grown b r (o + 1) (w.setCell ⟨b, o, none⟩ v)
    have hs : (w.setCell ⟨b, o, none⟩ v).heap.size = w.heap.size := by simp [World.setCell]
    refine ⟨ih.os, ih.tape, ih.output, by have := ih.size; rw [hs] at this; exact this, fun k hk hn => ?_⟩
    have h1 := ih.block k (by rw [hs]; exact hk) hn
    refine h1.trans (Below.heap_setCell _ _ _ _ (fun e => hn ?_))
    rw [e]

theorem append_textC {w : World} {base : Nat} {v : Value} {l : List UInt8} (h : OwnC w base v l) (m : List UInt8) (hb : l.length + m.length ≤ 140737488355328) (hbase : base ≤ w.heap.size) (ty : TypeId) :
    ∃ v' w', (Builtin.append_ #[46, 9] ty #[v, .string (tx m)]).run Tryz.prog w = .ok v' w' ∧ OwnC w' base v' (l ++ m) ∧ w.grownBy w' v.ownBlock := by
  obtain ⟨i0, hi, hz0, hz1, hz2⟩ := info_parts info_byte
  rcases h with ⟨rfl, rfl⟩ | ⟨g, cap, h⟩
  · obtain ⟨v', w', hr, h1, h2, _⟩ := append_text (base := base) (World.ownsRow_nil w base 5 1) m (by simpa using hb) hbase ty
    refine ⟨v', w', hr, own_c (n := 0 + m.length) (by simpa using h1) (by simp), h2⟩
  · have hv := h.v
    subst hv
    have hms : (tx m).size = m.length := rfl
    have hsc : Lib.strCells (tx m) = m.map by1 := strCells_tx m
    by_cases hroom : l.length + m.length ≤ cap
    · have hf := Lib.run_firstCells_string (P := Tryz.prog) w 1 (tx m)
      have hst := run_storeCells_cells (P := Tryz.prog) g l.length (Lib.strCells (tx m)) 0 w (fun j hj => by rw [Nat.add_zero]; exact h.there _ (by rw [Lib.strCells_length] at hj; omega)) (fun j hj => by
        rw [Nat.add_zero]
        rcases h.free (l.length + j) with q | q
        · exact q
        · rw [Lib.strCells_length] at hj
          omega) (Lib.strCells_oneCell (tx m))
      rw [Nat.add_zero] at hst
      refine ⟨.slice (some ⟨g, 0, none⟩) (l.length + m.length) cap, w.setCells g l.length (m.map by1), ?_, ?_, setCells_grown g _ _ w⟩
      · rw [← hsc]
        have hu := Tryz.underlying9
        have ht := Tryz.underlying46
        have hroom' : l.length + (tx m).size ≤ cap := by rw [hms]; exact hroom
        simp [Builtin.append_, run_underlying ht, run_underlying hu, sizeOf, typeInfo, hi, hz1, Builtin.lenOf, hroom', hf, Addr.add_lit, hst]
        rfl
      · have hG := setCells_grown g (m.map by1) l.length w
        refine .inr ⟨g, cap, by rw [List.length_append], h.b, Nat.lt_of_lt_of_le h.lt hG.size, by rw [List.length_append]; exact hroom, h.max, fun j hj => ?_, fun j hj => ?_, fun j => ?_⟩
        · rw [List.length_append] at hj
          rcases Nat.lt_or_ge j l.length with q | q
          · rw [World.cell?_setCells_out g _ _ _ _ (fun _ _ => .inl q), h.at_ j q, List.getElem_append_left q]
          · have := World.cell?_setCells_in g (m.map by1) l.length w (fun j hj => h.there _ (by rw [List.length_map] at hj; omega)) (j - l.length) (by rw [List.length_map]; omega)
            rw [show l.length + (j - l.length) = j by omega] at this
            rw [this, List.getElem_map, List.getElem_append_right q]
        · rcases Nat.lt_or_ge j l.length with q | q
          · rw [World.cell?_setCells_out g _ _ _ _ (fun _ _ => .inl q)]
            exact h.there j hj
          · rcases Nat.lt_or_ge j (l.length + m.length) with q2 | q2
            · have := World.cell?_setCells_in g (m.map by1) l.length w (fun j hj => h.there _ (by rw [List.length_map] at hj; omega)) (j - l.length) (by rw [List.length_map]; omega)
              rw [show l.length + (j - l.length) = j by omega] at this
              rw [this]
              rfl
            · rw [World.cell?_setCells_out g _ _ _ _ (fun _ _ => .inr (by rw [List.length_map]; exact q2))]
              exact h.there j hj
        · rw [World.frozen?_setCells]
          exact h.free j
    · have hlo : (l.map by1).length = l.length * i0.size := by rw [hz1, List.length_map, Nat.mul_one]
      have holds : ∀ j u, (l.map by1)[j]? = some u → w.cell? ((⟨g, 0, none⟩ : Addr).add j) = some u := fun j u hj => by
        have hj' : j < l.length := by
          have := (List.getElem?_eq_some_iff.1 hj).1
          simpa using this
        rw [List.getElem?_map, List.getElem?_eq_getElem hj'] at hj
        rw [Addr.add_lit, Nat.zero_add, h.at_ j hj']
        exact hj
      have hr := Lib.run_append_grow_string (P := Tryz.prog) w 46 9 ty 5 i0 (.int .u8 0) Tryz.underlying46 Tryz.underlying9 hi hz0 ⟨g, 0, none⟩ l.length cap (l.map by1) hlo holds (tx m) (by rw [hms]; omega) (by rw [hms]; omega) (by rw [hz2, hms]; exact growslice_fits (by omega) (by omega))
      have hge := grownCap_ge w (l.length + (tx m).size) cap 5
      have hcm := grownCap_le_maxLen w (l.length + (tx m).size) cap 5 (by rw [hms]; unfold maxLen; omega)
      refine ⟨_, _, hr, ?_, ⟨rfl, rfl, rfl, by simp, fun k hk _ => heap_alloc_old w.drew _ (r := k) hk⟩⟩
      refine own_c (n := l.length + (tx m).size) (base := base) ⟨by rw [hms]; simp, .inr ⟨w.heap.size, _, _, rfl, hbase, heap_alloc_new w.drew _, hge, hcm, ?_, ?_⟩⟩ (by rw [List.length_append, hms])
      · have hzz : (Value.int IntKind.u8 0).cells.size = 1 := rfl
        simp only [Array.size_append, List.size_toArray, size_zeroCells, hzz, List.length_map, Lib.strCells_length]
        omega
      · simp only [Array.toList_append, List.append_assoc]
        rw [← List.append_assoc, List.map_append, hsc]
        have : (List.map by1 l ++ List.map by1 m).length = (l.length + (tx m).size) * 1 := by rw [hms]; simp
        rw [← this]
        exact List.take_left

theorem wpList_append_textC {w : World} {ops : Array Oper} {rest : List Oper} {o : Oper} {a : Act} {Q : Exit → Act → World → Prop} (hgd : o.guard = none) (s x : Operand)
    (ho : o.op = .call { callee := .builtin .append, args := #[s, x], argTypes := #[46, 9] })
    (base : Nat) (v : Value) (f : ByteArray) (l m : List UInt8) (hs : a.eval s = v) (hx : a.eval x = .string f) (hf : f = tx m) (hown : OwnC w base v l) (hb : l.length + m.length ≤ 140737488355328) (hbase : base ≤ w.heap.size)
    (h : ∀ v' w', OwnC w' base v' (l ++ m) → w.grownBy w' v.ownBlock → wpList Tryz.prog ops Q rest (a.put o.dst v') w') : wpList Tryz.prog ops Q (o :: rest) a w := by
  subst hf
  refine wpList_plain hgd fun K hK => ?_
  obtain ⟨v', w', hr, h1, h2⟩ := append_textC hown m hb hbase o.type
  unfold Oper.wp execOp
  simp only [ho, resolve, invoke, builtin, Sem.run_bind, Sem.run_pure, Result.andThen_ok, List.map_toArray, List.map_cons, List.map_nil, hs, hx, hr]
  exact hK _ _ (h v' w' h1 h2)

theorem own_mark {w : World} {base g cap : Nat} {cur : Array Value} {e : TypeId} {fz : Nat × Nat} {l : List UInt8} (h : w.heap[g]? = some (.cells cur e fz)) (hs : cur.size = cap) (hat : ∀ j (hj : j < l.length), cur[j]? = some (by1 l[j])) (hle : l.length ≤ cap) (hm : cap ≤ maxLen) (hf : cap ≤ fz.1) (hb : base ≤ g) : OwnC w base (.slice (some ⟨g, 0, none⟩) l.length cap) l := by
  refine .inr ⟨g, cap, rfl, hb, (Array.getElem?_eq_some_iff.1 h).1, hle, hm, fun j hj => ?_, fun j hj => ?_, fun j => ?_⟩
  · rw [World.cell?]
    simp only [h]
    exact hat j hj
  · rw [World.cell?]
    simp only [h]
    rw [Array.getElem?_eq_getElem (by omega)]
    rfl
  · rcases Nat.lt_or_ge j cap with q | q
    · left
      unfold World.frozen?
      simp only [h]
      simp
      omega
    · exact .inr q

/-- A text as bytes: a row of one's own. -/
theorem conv_c (l : List UInt8) (hl : l.length ≤ maxLen) (w : World) : ∃ v' w', (convert 9 46 (.string (tx l))).run Tryz.prog w = .ok v' w' ∧ OwnC w' w.heap.size v' l ∧ Below w.heap.size w w' := by
  have hr := run_bytes_of_string w 9 46 5 (tx l) Tryz.underlying9 Tryz.underlying46 Tryz.underlying5
  have hge : l.length ≤ grownCap w (tx l).size 0 5 := grownCap_ge _ _ _ _
  have hmx : grownCap w (tx l).size 0 5 ≤ maxLen := grownCap_le_maxLen _ _ _ _ hl
  obtain ⟨c, hc⟩ : ∃ c, grownCap w (tx l).size 0 5 = c := ⟨_, rfl⟩
  rw [hc] at hr hge hmx
  have hsz : (bytesRow (tx l) c).size = c := by
    unfold bytesRow
    have : (tx l).data.size = l.length := rfl
    have h2 : (tx l).size = l.length := rfl
    simp [this, h2]
    omega
  refine ⟨_, _, hr, own_mark (heap_alloc_new w.drew _) hsz (fun j hj => ?_) hge hmx (Nat.le_of_eq hsz.symm) (Nat.le_refl _), (Below.refl _ _).drew.alloc (Nat.le_refl _) _⟩
  exact bytesRow_at (tx l) c j hj
end Rc
end Go.Proofs.YthdibodmnpcekaaGreatDoor
/- Which record stands at a block: the document's answer. -/
namespace Go.Proofs.YthdibodmnpcekaaGreatDoor
set_option linter.ambiguousOpen false
open Go.RowKit
namespace Rc
open Sm Pk
set_option linter.unusedSimpArgs false
set_option linter.unusedVariables false

theorem slice_midT (a : Option Addr) (len cap i j : Nat) (h : i ≤ j) (hj : j ≤ cap) (w : World) : (Instr.slice 63 (.slice a len cap) (some (.int .i64 (i : Int))) (some (.int .i64 (j : Int))) none).run Tryz.prog w = .ok (.slice (further a cap i) (j - i) (cap - i)) w := by
  have h1 : (0 : Int) ≤ (i : Int) ∧ (i : Int) ≤ (j : Int) := by omega
  have h2 : (0 : Int) ≤ (j : Int) ∧ (j : Int) ≤ (cap : Int) := by omega
  have hu := Tryz.underlying63
  cases a with
  | none =>
    simp [Instr.slice, Instr.sliceBounds, Instr.sliceBound, asIntOf, run_underlying hu, further]
    rw [if_pos hj, if_pos h]
  | some ad =>
    simp [Instr.slice, Instr.sliceBounds, Instr.sliceBound, asIntOf, run_underlying hu, Addr.add, further]
    rw [if_pos hj, if_pos h]

/-- Some texts of a list. -/
theorem rd_part {w : World} {a : Option Addr} {ls : List (List UInt8)} {cap n : Nat} (hn : ls.length = n) (h : Nm.Rd w (.slice a n cap) ls) (i j : Nat) (hij : i ≤ j) (hj : j ≤ n) : Nm.Rd w (.slice (further a cap i) (j - i) (cap - i)) ((ls.drop i).take (j - i)) := by
  subst hn
  obtain ⟨a', cap', e, h1, h2, h3⟩ := h
  cases e
  have hl : ((ls.drop i).take (j - i)).length = j - i := by rw [List.length_take, List.length_drop]; omega
  refine ⟨further a cap i, cap - i, by rw [hl], by omega, by omega, fun h0 => ?_⟩
  rw [hl] at h0
  obtain ⟨g, o, rfl, e2, e3⟩ := h3 (by omega)
  refine ⟨g, o + i, ?_, e2, fun k hk => ?_⟩
  · unfold further
    simp only []
    rw [if_neg (by omega)]
    by_cases h0 : i = 0
    · subst h0; rfl
    · rw [if_neg h0]
  · rw [hl] at hk
    have := e3 (i + k) (by omega)
    rw [← Nat.add_assoc] at this
    rw [this, List.getElem_take, List.getElem_drop]

/-- The answer: a payload in new memory and how many blocks, or none. -/
def AnsO (r : Option (List UInt8 × Nat)) (w : World) (e : Ending) (w' : World) : Prop :=
  match r with
  | some (p, k) => ∃ v, e = .returned (.tuple #[v, nu (k : Int), .bool true]) ∧ OwnC w' w.heap.size v p ∧ Below w.heap.size w w'
  | none => ∃ a c k, e = .returned (.tuple #[.slice a c k, nu 0, .bool false]) ∧ Below w.heap.size w w' ∨ ∃ v k, e = .returned (.tuple #[v, k, .bool false]) ∧ Below w.heap.size w w'

theorem ans_no {r : Option (List UInt8 × Nat)} {w : World} {e : Ending} {w' : World} (hr : r = none) (v k : Value) (he : e = .returned (.tuple #[v, k, .bool false])) (hb : Below w.heap.size w w') : AnsO r w e w' := by
  subst hr
  exact ⟨none, 0, 0, .inr ⟨v, k, he, hb⟩⟩

theorem ans_yes {r : Option (List UInt8 × Nat)} {w : World} {e : Ending} {w' : World} {p : List UInt8} {k : Nat} (hr : r = some (p, k)) (v : Value) (he : e = .returned (.tuple #[v, nu (k : Int), .bool true])) (ho : OwnC w' w.heap.size v p) (hb : Below w.heap.size w w') : AnsO r w e w' := by
  subst hr
  exact ⟨v, he, ho, hb⟩

theorem one_nil (ep : Nat) : one ep [] = none := rfl

theorem one_short (ep : Nat) (b : List UInt8) (r : List (List UInt8)) (h : b.length < 11) : one ep (b :: r) = none := by
  unfold one
  simp only
  rw [if_pos h]

theorem one_big (ep : Nat) (b : List UInt8) (r : List (List UInt8)) (h : ¬ b.length < 11) (h2 : 512 < sizeB b) : one ep (b :: r) = none := by
  unfold one
  simp only
  rw [if_neg h, if_pos h2]

theorem one_gath (ep : Nat) (b : List UInt8) (r : List (List UInt8)) (h : ¬ b.length < 11) (h2 : ¬ 512 < sizeB b) : one ep (b :: r) = match gath (sizeB b) 3 (b.drop 11) 1 r with
      | none => none
      | some (p, k) => if p.length ≠ sizeB b then none else if blocks ep p = (b :: r).take k then some (p, k) else none := by
  unfold one
  simp only
  rw [if_neg h, if_neg h2]
  rfl

theorem wrapS (s : Nat) (h : s ≤ 140737488351232) : IntKind.i64.wrap (s : Int) = (s : Int) ∧ wrap64 (s : Int) = (s : Int) := by
  constructor
  · simp only [IntKind.wrap, IntKind.bits, IntKind.signed]
    simp
    omega
  · unfold wrap64
    omega

theorem gath_stop (n f : Nat) (q : List UInt8) (k : Nat) (l : List (List UInt8)) (h : f = 0 ∨ ¬ q.length < n ∨ l = []) : gath n f q k l = some (q, k) := by
  cases f with
  | zero => rfl
  | succ f =>
    unfold gath
    by_cases hq : q.length < n
    · rw [if_pos hq]
      rcases h with h | h | h
      · omega
      · exact absurd hq h
      · subst h
        rfl
    · rw [if_neg hq]

set_option maxRecDepth 100000 in
set_option maxHeartbeats 8000000 in
theorem refone (ep : Nat) (lv : Value) (ls : List (List UInt8)) (at_ : Nat) (w : World) (hep : ep < 4294967296) (hR : Nm.Rd w lv ls) (hat : at_ ≤ ls.length) (hln : ls.length ≤ 140737488351232) (hts : ∀ t ∈ ls, t.length ≤ 140737488350000) :
    Calls Tryz.prog 72 #[.int .u32 (ep : Int), lv, nu (at_ : Int)] w (AnsO (one ep (ls.drop at_)) w) := by
  have HR := Hid.mk' hR
  obtain ⟨n, hn⟩ : ∃ n, ls.length = n := ⟨_, rfl⟩
  obtain ⟨a, cap, rfl, hc1, hc2, hcells⟩ := hR
  obtain ⟨ans, hans⟩ : ∃ r, one ep (ls.drop at_) = r := ⟨_, rfl⟩
  have HA := Hid.mk' hans
  rw [hans]
  have HC : Hid (0 < n → ∃ g o, a = some ⟨g, o, none⟩ ∧ g < w.heap.size ∧ ∀ j t, ls[j]? = some t → w.cell? ⟨g, o + j, none⟩ = some (.string (tx t))) := fun h0 => by
    obtain ⟨g, o, e1, e2, e3⟩ := hcells (by omega)
    refine ⟨g, o, e1, e2, fun j t hj => ?_⟩
    obtain ⟨hj1, hj2⟩ := List.getElem?_eq_some_iff.1 hj
    rw [← hj2]
    exact e3 j hj1
  rw [hn] at HR hc1 hat hln ⊢
  unfold maxLen at hc2
  have HN := Hid.mk' hn
  have HT := Hid.mk' hts
  clear hn hcells hans hts
  have ha0 : (0 : Int) ≤ (at_ : Int) := by omega
  by_cases h1 : at_ < n
  · obtain ⟨b, hb⟩ : ∃ b, ls[at_]? = some b := ⟨ls[at_]'(by have := HN.out; omega), List.getElem?_eq_getElem _⟩
    have hbl := HT.out b (List.mem_of_getElem? hb)
    obtain ⟨g, o, rfl, hgl, hce⟩ := HC.out (by omega)
    have HCE := Hid.mk' hce
    clear hce HC
    have hcb := HCE.out at_ b hb
    have HD : Hid (ls.drop at_ = b :: ls.drop (at_ + 1)) := by
      show _ = _
      obtain ⟨hj1, hj2⟩ := List.getElem?_eq_some_iff.1 hb
      rw [← hj2]
      exact List.drop_eq_getElem_cons hj1
    have h1I : ¬ (n : Int) ≤ (at_ : Int) := by omega
    have h1J : (at_ : Int) < (n : Int) := by omega
    have hbs : (tx b).size = b.length := rfl
    by_cases h2 : b.length < 11
    · have hr : Hid (ans = none) := by
        show _ = _
        rw [← HA.out, HD.out]
        exact one_short ep b _ h2
      obtain ⟨f, hf⟩ : ∃ f, tx b = f := ⟨_, rfl⟩
      rw [hf] at hcb hbs
      have h2I : (f.size : Int) < 11 := by omega
      clear hf HD HCE hbs hb
      go_enter Tryz.func72, Tryz.ntmps72
      go_wp2
      go_ret3
      exact ans_no hr.out _ _ rfl (Below.refl _ _)
    · obtain ⟨z, hz⟩ : ∃ z, sizeB b = z := ⟨_, rfl⟩
      have HZ := Hid.mk' hz
      obtain ⟨c5, hc5⟩ : ∃ c : Nat, (byI b 5).toNat = c := ⟨_, rfl⟩
      obtain ⟨c6, hc6⟩ : ∃ c : Nat, (byI b 6).toNat = c := ⟨_, rfl⟩
      have i5 : ∀ wx, (Instr.index 9 (.string (tx b)) (.int .i64 5)).run Tryz.prog wx = .ok (.int .u8 (c5 : Int)) wx := fun wx => by
        have := idx_at b 5 (by omega) wx
        rw [← hc5]
        exact this
      have i6 : ∀ wx, (Instr.index 9 (.string (tx b)) (.int .i64 6)).run Tryz.prog wx = .ok (.int .u8 (c6 : Int)) wx := fun wx => by
        have := idx_at b 6 (by omega) wx
        rw [← hc6]
        exact this
      have hzI : (c5 : Int) + 256 * (c6 : Int) = (z : Int) := by
        have : z = c5 + 256 * c6 := by
          rw [← hz, ← hc5, ← hc6]
          rfl
        omega
      have l5 : c5 < 256 := by rw [← hc5]; exact (byI b 5).toNat_lt
      have l6 : c6 < 256 := by rw [← hc6]; exact (byI b 6).toNat_lt
      have hex : (tx b).extract 11 (tx b).size = tx (b.drop 11) := tx_drop b 11
      obtain ⟨f, hf⟩ : ∃ f, tx b = f := ⟨_, rfl⟩
      obtain ⟨fd, hfd⟩ : ∃ f, tx (b.drop 11) = f := ⟨_, rfl⟩
      rw [hf] at hcb hbs i5 i6
      rw [hf, hfd] at hex
      have h2I : ¬ (f.size : Int) < 11 := by omega
      clear hc5 hc6 hz hbs
      go_enter Tryz.func72, Tryz.ntmps72
      go_upto_region 3 with fail
      go_quiet (fail)
      have HB0 : Hid (Below w.heap.size w (w.drewN nq)) := below_dn (Below.refl _ _) nq
      have HC0 : Hid (∀ j t, ls[j]? = some t → (w.drewN nq).cell? ⟨g, o + j, none⟩ = some (.string (tx t))) := fun j t hj => HCE.out j t hj
      have HR0 : Hid (Nm.Rd (w.drewN nq) (.slice (some ⟨g, o, none⟩) n cap) ls) := HR.out.below HB0.out
      have HG0 : Hid (g < (w.drewN nq).heap.size) := hgl
      have hcb0 : (w.drewN nq).cell? ⟨g, o + at_, none⟩ = some (.string f) := hcb
      generalize w.drewN nq = w0 at *
      have HGW := Hid.mk' hgl
      have HRW := Hid.mk' HR.out
      clear hcb i5 i6 hzI l5 l6 HR hgl HC0
      by_cases h3 : 512 < z
      · have h3I : (512 : Int) < (z : Int) := by omega
        have hr : Hid (ans = none) := by
          show _ = _
          rw [← HA.out, HD.out]
          exact one_big ep b _ h2 (by rw [HZ.out]; exact h3)
        go_wp2
        go_ret3
        exact ans_no hr.out _ _ rfl HB0.out
      · have h3I : ¬ (512 : Int) < (z : Int) := by omega
        have HGA : Hid (ans = match gath z 3 (b.drop 11) 1 (ls.drop (at_ + 1)) with
            | none => none
            | some (p, k) => if p.length ≠ z then none else if blocks ep p = (ls.drop at_).take k then some (p, k) else none) := by
          show _ = _
          rw [← HA.out, HD.out, one_gath ep b _ h2 (by rw [HZ.out]; exact h3), HZ.out]
        obtain ⟨pv, w1, hcv, ho1, hb1⟩ := conv_c (b.drop 11) (by rw [List.length_drop]; unfold maxLen; omega) w0
        rw [hfd] at hcv
        have HO1 := Hid.mk' (show OwnC w1 w.heap.size pv (b.drop 11) from by
          rcases ho1 with h | ⟨g1, cp1, h⟩
          · exact .inl h
          · exact .inr ⟨g1, cp1, h.v, Nat.le_trans HB0.out.size h.b, h.lt, h.le, h.max, h.at_, h.there, h.free⟩)
        have HB1 := Hid.mk' (HB0.out.trans (hb1.mono HB0.out.size))
        obtain ⟨a1, cp1, rfl⟩ := ho1.shape
        have hdl : (b.drop 11).length ≤ 140737488350000 := by rw [List.length_drop]; omega
        obtain ⟨d0, hd0⟩ : ∃ d, b.drop 11 = d := ⟨_, rfl⟩
        rw [hd0] at hcv HO1 HGA hdl
        clear ho1 hb1 hd0 HA
        go_wp2
        clear hcb0
        go_loopw [10, 11, 12] (fun pv kv iv wr => ∃ (i k : Nat) (q : List UInt8), i ≤ 3 ∧ at_ + k ≤ n ∧ iv = nu (i : Int) ∧ kv = nu (k : Int) ∧ Hid (k = i + 1) ∧ q.length ≤ 140737488352000 ∧ Hid (gath z 3 d0 1 (ls.drop (at_ + 1)) = gath z (3 - i) q k (ls.drop (at_ + k))) ∧ Hid (OwnC wr w.heap.size pv q) ∧ Hid (Below w.heap.size w wr)) (fun _ _ iv _ => 3 - (intOf iv).toNat)
        case atStart => exact ⟨0, 1, d0, by omega, by omega, rfl, rfl, rfl, by omega, rfl, HO1, HB1⟩
        case round =>
        clear HO1 HB1 hcv HR0 HG0 HB0 hex
        obtain ⟨i, k, q, hi, hatk, rfl, rfl, hki, hql, hE, hO, hB⟩ := hrel
        have hkn : k ≤ 4 := by have := hki.out; omega
        by_cases c1 : i < 3 ∧ q.length < z ∧ at_ + k < n
        · obtain ⟨c1, c2, c3⟩ := c1
          obtain ⟨t, ht⟩ : ∃ t, ls[at_ + k]? = some t := ⟨ls[at_ + k]'(by have := HN.out; omega), List.getElem?_eq_getElem _⟩
          have htl := HT.out t (List.mem_of_getElem? ht)
          have hct : wr.cell? ⟨g, o + (at_ + k), none⟩ = some (.string (tx t)) := (hB.out.cell (p := ⟨g, o + (at_ + k), none⟩) HGW.out).trans (HCE.out _ _ ht)
          have HDT : Hid (ls.drop (at_ + k) = t :: ls.drop (at_ + (k + 1))) := by
            show _ = _
            obtain ⟨hj1, hj2⟩ := List.getElem?_eq_some_iff.1 ht
            rw [← hj2, ← Nat.add_assoc]
            exact List.drop_eq_getElem_cons hj1
          have HST : Hid (gath z (3 - i) q k (ls.drop (at_ + k)) = if t = [] then none else gath z (3 - (i + 1)) (q ++ t.drop 1) (k + 1) (ls.drop (at_ + (k + 1)))) := by
            show _ = _
            rw [HDT.out, show 3 - i = (3 - (i + 1)) + 1 by omega]
            simp only [gath]
            rw [if_pos c2]
          have b1 : (i : Int) < 3 := by omega
          have b2 : (q.length : Int) < (z : Int) := by omega
          have b3 : (at_ : Int) + (k : Int) < (n : Int) := by omega
          have hts : (tx t).size = t.length := rfl
          by_cases ht0 : t = []
          · subst ht0
            have hr : Hid (ans = none) := by
              show _ = _
              rw [HGA.out, hE.out, HST.out, if_pos rfl]
            obtain ⟨aq, cq, hv⟩ := hO.out.shape
            subst hv
            have hct' : wr.cell? ⟨g, o + (at_ + k), none⟩ = some (.string ⟨#[]⟩) := hct
            clear hct HST HDT ht
            go_wp2
            go_ret3
            exact ans_no hr.out _ _ rfl hB.out
          · have ht1 : 0 < t.length := List.length_pos_iff.2 ht0
            have hex2 : (tx t).extract 1 (tx t).size = tx (t.drop 1) := tx_drop t 1
            obtain ⟨ft, hft⟩ : ∃ f, tx t = f := ⟨_, rfl⟩
            obtain ⟨fe, hfe⟩ : ∃ f, tx (t.drop 1) = f := ⟨_, rfl⟩
            rw [hft] at hct hts
            rw [hft, hfe] at hex2
            have HFE := Hid.mk' hfe.symm
            have htI : ((ft.size : Int) == 0) = false := beq_eq_false_iff_ne.2 (by omega)
            have htJ : (1 : Int) ≤ (ft.size : Int) := by omega
            obtain ⟨aq, cq, hv⟩ := hO.out.shape
            subst hv
            have hbd : Hid (q.length + (t.drop 1).length ≤ 140737488355328) := by show _ ≤ _; rw [List.length_drop]; omega
            have HNX : Hid (gath z 3 d0 1 (ls.drop (at_ + 1)) = gath z (3 - (i + 1)) (q ++ t.drop 1) (k + 1) (ls.drop (at_ + (k + 1)))) := by
              show _ = _
              rw [hE.out, HST.out, if_neg ht0]
            have hnl : (q ++ t.drop 1).length ≤ 140737488352000 := by rw [List.length_append, List.length_drop]; omega
            clear hft hfe HST HDT ht ht0 ht1 hts hE
            go_wp2_with (at_builtin; refine wpList_append_textC rfl _ _ rfl w.heap.size _ _ q (t.drop 1) rfl rfl HFE.out hO.out hbd.out hB.out.size ?_; intro v' w4 ho hg; have HO4 := Hid.mk' ho; have HB4 : Hid (Below w.heap.size w w4) := Below.grown hB.out hg hB.out.size (fun k hk => (hO.out.lt k hk).1); clear ho hg)
            go_wp2
            go_roundw
            case rel => exact ⟨i + 1, k + 1, q ++ t.drop 1, by omega, by omega, by go_num, by go_num, (by show _ = _; rw [hki.out]), hnl, HNX, HO4, HB4⟩
            case measure => simp [intOf]; omega
        · have HGX : Hid (ans = match some (q, k) with
            | none => none
            | some (p, k) => if p.length ≠ z then none else if blocks ep p = (ls.drop at_).take k then some (p, k) else none) := by
            show _ = _
            rw [HGA.out, hE.out, gath_stop z (3 - i) q k _ (by
              by_cases q1 : i < 3
              · by_cases q2 : q.length < z
                · exact .inr (.inr (List.drop_eq_nil_of_le (by have := HN.out; omega)))
                · exact .inr (.inl q2)
              · exact .inl (by omega))]
          obtain ⟨aq, cq, hv⟩ := hO.out.shape
          subst hv
          clear hE HGA
          by_cases q1 : i < 3
          · have b1 : (i : Int) < 3 := by omega
            by_cases q2 : q.length < z
            · have b2 : (q.length : Int) < (z : Int) := by omega
              have b3 : ¬ (at_ : Int) + (k : Int) < (n : Int) := by omega
              by_cases hq : q.length = z
              · have hqz : Hid (ans = if blocks ep q = (ls.drop at_).take k then some (q, k) else none) := by
                  show _ = _
                  rw [HGX.out]
                  simp only
                  rw [if_neg (by simp [hq])]
                obtain ⟨al, hal⟩ : ∃ x, (some ⟨g, o, none⟩ : Option Addr) = x := ⟨_, rfl⟩
                rw [hal] at HRW ⊢
                obtain ⟨bb, hbb⟩ : ∃ c, decide (blocks ep q = (ls.drop at_).take k) = c := ⟨_, rfl⟩
                obtain ⟨s, hs⟩ : ∃ s, at_ + k = s := ⟨_, rfl⟩
                have hsum : (at_ : Int) + (k : Int) = (s : Int) := by omega
                have hsle : s ≤ 140737488351232 := by omega
                have hwrap : IntKind.i64.wrap ((at_ : Int) + (k : Int)) = (s : Int) := by rw [hsum]; exact (wrapS s hsle).1
                have hsl : ∀ wx, (Instr.slice 63 (.slice al n cap) (some (.int .i64 (at_ : Int))) (some (.int .i64 (s : Int))) none).run Tryz.prog wx = .ok (.slice (further al cap at_) k (cap - at_)) wx := fun wx => by
                  have := slice_midT al n cap at_ s (by omega) (by omega) wx
                  rw [show s - at_ = k by omega] at this
                  exact this
                have hpart : ∀ wx, Below w.heap.size w wx → Nm.Rd wx (.slice (further al cap at_) k (cap - at_)) ((ls.drop at_).take k) := fun wx hx => by
                  have := rd_part HN.out (HRW.out.below hx) at_ (at_ + k) (by omega) (by omega)
                  rw [Nat.add_sub_cancel_left] at this
                  exact this
                obtain ⟨ap, hap⟩ : ∃ x, further al cap at_ = x := ⟨_, rfl⟩
                obtain ⟨cpp, hcpp⟩ : ∃ x, cap - at_ = x := ⟨_, rfl⟩
                simp only [hap, hcpp] at hsl hpart
                obtain ⟨PB, hPB⟩ : ∃ x, (ls.drop at_).take k = x := ⟨_, rfl⟩
                obtain ⟨BB, hBB⟩ : ∃ x, blocks ep q = x := ⟨_, rfl⟩
                obtain ⟨nb, hnb⟩ : ∃ x, BB.length = x := ⟨_, rfl⟩
                have CB : Hid (∀ wx, Below wr.heap.size wr wx → Calls Tryz.prog 71 #[.int .u32 (ep : Int), .slice aq q.length cq] wx fun e w' => ∃ ax cx, e = .returned (.slice ax nb cx) ∧ Nm.Rd w' (.slice ax nb cx) BB ∧ Nm.Rd w' (.slice ap k cpp) PB ∧ Below wr.heap.size wr w') := fun wx hx => by
                  refine (refblocks ep (.slice aq q.length cq) q wx hep (hO.out.below hx).rd hO.out.nz (by omega)).mono ?_
                  rintro e w' ⟨x, rfl, ho, hb⟩
                  have hbw : Below wr.heap.size wr w' := hx.trans (hb.mono hx.size)
                  have hrd := Nm.rd_own ho
                  obtain ⟨ax, cx, e1, _⟩ := id hrd
                  rw [hBB] at hrd e1
                  subst e1
                  rw [hnb] at hrd ⊢
                  have hp := hpart w' (hB.out.trans (hbw.mono hB.out.size))
                  rw [hPB] at hp
                  exact ⟨ax, cx, rfl, hrd, hp, hbw⟩
                have CS : Hid (∀ wx v1 v2, Below wr.heap.size wr wx → Nm.Rd wx v1 BB → Nm.Rd wx v2 PB → Calls Tryz.prog 82 #[v1, v2] wx fun e w' => e = .returned (.bool bb) ∧ Below wr.heap.size wr w') := fun wx v1 v2 hx h1 h2 => by
                  refine (Nm.same_l v1 v2 BB PB wx h1 h2).mono ?_
                  rintro e w' ⟨rfl, m, rfl⟩
                  rw [← hbb, hBB, hPB]
                  exact ⟨rfl, below_dn hx m⟩
                have HBB := Hid.mk' hbb
                have hqI : ((q.length : Int) != (z : Int)) = false := by simp [hq]
                have hakI : (at_ : Int) + (k : Int) ≤ (n : Int) := by omega
                have hs0 : (s : Int) ≤ 140737488351232 := by omega
                have hs1 : (at_ : Int) ≤ (s : Int) := by omega
                have hs2 : (s : Int) ≤ (cap : Int) := by omega
                have hs3 : (s : Int) ≤ (n : Int) := by omega
                have hw2 := (wrapS s hsle).1
                have hw3 := (wrapS s hsle).2
                clear hbb hpart hap hcpp hPB hBB hnb hq hs hal
                go_wp2_with fail
                go_region_held3 (fun w' => Below wr.heap.size wr w') (first | assumption | exact Below.refl _ _ | exact (Below.refl _ _).drew) (first | (go_at_call 71; with_reducible refine (CB.out _ ?hb).mono ?_; (case hb => (first | exact Below.refl _ _ | exact (Below.refl _ _).drew | fail)); rintro e w5 ⟨ax, cx, rfl, hr1, hr2, hb5⟩) | (go_at_call 82; with_reducible refine (CS.out _ _ _ hb5 ?h1 ?h2).mono ?_; (case h1 => (first | exact hr1 | fail)); (case h2 => (first | exact hr2 | fail)); rintro e w6 ⟨rfl, hb6⟩) | fail)
                have hbw : Below wr.heap.size wr w6 := hb6
                have hbz : Below w.heap.size w w6 := hB.out.trans (hbw.mono hB.out.size)
                have HO6 := Hid.mk' (hO.out.below hbw)
                have HBZ := Hid.mk' hbz
                clear hb5 hb6 hbw hbz hr1 hr2
                cases bb with
                | false =>
                  go_wp2
                  go_ret3
                  exact ans_no (by rw [hqz.out, if_neg (of_decide_eq_false HBB.out)]) _ _ rfl HBZ.out
                | true =>
                  go_wp2
                  go_ret3
                  exact ans_yes (by rw [hqz.out, if_pos (of_decide_eq_true HBB.out)]) _ rfl HO6.out HBZ.out
              · have hr : Hid (ans = none) := by
                  show _ = _
                  rw [HGX.out]
                  simp only
                  rw [if_pos (by simpa using hq)]
                have hqI : ((q.length : Int) != (z : Int)) = true := by
                  simp
                  omega
                clear hq
                go_wp2
                go_ret3
                exact ans_no hr.out _ _ rfl hB.out
            · have b2 : ¬ (q.length : Int) < (z : Int) := by omega
              by_cases hq : q.length = z
              · have hqz : Hid (ans = if blocks ep q = (ls.drop at_).take k then some (q, k) else none) := by
                  show _ = _
                  rw [HGX.out]
                  simp only
                  rw [if_neg (by simp [hq])]
                obtain ⟨al, hal⟩ : ∃ x, (some ⟨g, o, none⟩ : Option Addr) = x := ⟨_, rfl⟩
                rw [hal] at HRW ⊢
                obtain ⟨bb, hbb⟩ : ∃ c, decide (blocks ep q = (ls.drop at_).take k) = c := ⟨_, rfl⟩
                obtain ⟨s, hs⟩ : ∃ s, at_ + k = s := ⟨_, rfl⟩
                have hsum : (at_ : Int) + (k : Int) = (s : Int) := by omega
                have hsle : s ≤ 140737488351232 := by omega
                have hwrap : IntKind.i64.wrap ((at_ : Int) + (k : Int)) = (s : Int) := by rw [hsum]; exact (wrapS s hsle).1
                have hsl : ∀ wx, (Instr.slice 63 (.slice al n cap) (some (.int .i64 (at_ : Int))) (some (.int .i64 (s : Int))) none).run Tryz.prog wx = .ok (.slice (further al cap at_) k (cap - at_)) wx := fun wx => by
                  have := slice_midT al n cap at_ s (by omega) (by omega) wx
                  rw [show s - at_ = k by omega] at this
                  exact this
                have hpart : ∀ wx, Below w.heap.size w wx → Nm.Rd wx (.slice (further al cap at_) k (cap - at_)) ((ls.drop at_).take k) := fun wx hx => by
                  have := rd_part HN.out (HRW.out.below hx) at_ (at_ + k) (by omega) (by omega)
                  rw [Nat.add_sub_cancel_left] at this
                  exact this
                obtain ⟨ap, hap⟩ : ∃ x, further al cap at_ = x := ⟨_, rfl⟩
                obtain ⟨cpp, hcpp⟩ : ∃ x, cap - at_ = x := ⟨_, rfl⟩
                simp only [hap, hcpp] at hsl hpart
                obtain ⟨PB, hPB⟩ : ∃ x, (ls.drop at_).take k = x := ⟨_, rfl⟩
                obtain ⟨BB, hBB⟩ : ∃ x, blocks ep q = x := ⟨_, rfl⟩
                obtain ⟨nb, hnb⟩ : ∃ x, BB.length = x := ⟨_, rfl⟩
                have CB : Hid (∀ wx, Below wr.heap.size wr wx → Calls Tryz.prog 71 #[.int .u32 (ep : Int), .slice aq q.length cq] wx fun e w' => ∃ ax cx, e = .returned (.slice ax nb cx) ∧ Nm.Rd w' (.slice ax nb cx) BB ∧ Nm.Rd w' (.slice ap k cpp) PB ∧ Below wr.heap.size wr w') := fun wx hx => by
                  refine (refblocks ep (.slice aq q.length cq) q wx hep (hO.out.below hx).rd hO.out.nz (by omega)).mono ?_
                  rintro e w' ⟨x, rfl, ho, hb⟩
                  have hbw : Below wr.heap.size wr w' := hx.trans (hb.mono hx.size)
                  have hrd := Nm.rd_own ho
                  obtain ⟨ax, cx, e1, _⟩ := id hrd
                  rw [hBB] at hrd e1
                  subst e1
                  rw [hnb] at hrd ⊢
                  have hp := hpart w' (hB.out.trans (hbw.mono hB.out.size))
                  rw [hPB] at hp
                  exact ⟨ax, cx, rfl, hrd, hp, hbw⟩
                have CS : Hid (∀ wx v1 v2, Below wr.heap.size wr wx → Nm.Rd wx v1 BB → Nm.Rd wx v2 PB → Calls Tryz.prog 82 #[v1, v2] wx fun e w' => e = .returned (.bool bb) ∧ Below wr.heap.size wr w') := fun wx v1 v2 hx h1 h2 => by
                  refine (Nm.same_l v1 v2 BB PB wx h1 h2).mono ?_
                  rintro e w' ⟨rfl, m, rfl⟩
                  rw [← hbb, hBB, hPB]
                  exact ⟨rfl, below_dn hx m⟩
                have HBB := Hid.mk' hbb
                have hqI : ((q.length : Int) != (z : Int)) = false := by simp [hq]
                have hakI : (at_ : Int) + (k : Int) ≤ (n : Int) := by omega
                have hs0 : (s : Int) ≤ 140737488351232 := by omega
                have hs1 : (at_ : Int) ≤ (s : Int) := by omega
                have hs2 : (s : Int) ≤ (cap : Int) := by omega
                have hs3 : (s : Int) ≤ (n : Int) := by omega
                have hw2 := (wrapS s hsle).1
                have hw3 := (wrapS s hsle).2
                clear hbb hpart hap hcpp hPB hBB hnb hq hs hal
                go_wp2_with fail
                go_region_held3 (fun w' => Below wr.heap.size wr w') (first | assumption | exact Below.refl _ _ | exact (Below.refl _ _).drew) (first | (go_at_call 71; with_reducible refine (CB.out _ ?hb).mono ?_; (case hb => (first | exact Below.refl _ _ | exact (Below.refl _ _).drew | fail)); rintro e w5 ⟨ax, cx, rfl, hr1, hr2, hb5⟩) | (go_at_call 82; with_reducible refine (CS.out _ _ _ hb5 ?h1 ?h2).mono ?_; (case h1 => (first | exact hr1 | fail)); (case h2 => (first | exact hr2 | fail)); rintro e w6 ⟨rfl, hb6⟩) | fail)
                have hbw : Below wr.heap.size wr w6 := hb6
                have hbz : Below w.heap.size w w6 := hB.out.trans (hbw.mono hB.out.size)
                have HO6 := Hid.mk' (hO.out.below hbw)
                have HBZ := Hid.mk' hbz
                clear hb5 hb6 hbw hbz hr1 hr2
                cases bb with
                | false =>
                  go_wp2
                  go_ret3
                  exact ans_no (by rw [hqz.out, if_neg (of_decide_eq_false HBB.out)]) _ _ rfl HBZ.out
                | true =>
                  go_wp2
                  go_ret3
                  exact ans_yes (by rw [hqz.out, if_pos (of_decide_eq_true HBB.out)]) _ rfl HO6.out HBZ.out
              · have hr : Hid (ans = none) := by
                  show _ = _
                  rw [HGX.out]
                  simp only
                  rw [if_pos (by simpa using hq)]
                have hqI : ((q.length : Int) != (z : Int)) = true := by
                  simp
                  omega
                clear hq
                go_wp2
                go_ret3
                exact ans_no hr.out _ _ rfl hB.out
          · have b1 : ¬ (i : Int) < 3 := by omega
            by_cases hq : q.length = z
            · have hqz : Hid (ans = if blocks ep q = (ls.drop at_).take k then some (q, k) else none) := by
                show _ = _
                rw [HGX.out]
                simp only
                rw [if_neg (by simp [hq])]
              obtain ⟨al, hal⟩ : ∃ x, (some ⟨g, o, none⟩ : Option Addr) = x := ⟨_, rfl⟩
              rw [hal] at HRW ⊢
              obtain ⟨bb, hbb⟩ : ∃ c, decide (blocks ep q = (ls.drop at_).take k) = c := ⟨_, rfl⟩
              obtain ⟨s, hs⟩ : ∃ s, at_ + k = s := ⟨_, rfl⟩
              have hsum : (at_ : Int) + (k : Int) = (s : Int) := by omega
              have hsle : s ≤ 140737488351232 := by omega
              have hwrap : IntKind.i64.wrap ((at_ : Int) + (k : Int)) = (s : Int) := by rw [hsum]; exact (wrapS s hsle).1
              have hsl : ∀ wx, (Instr.slice 63 (.slice al n cap) (some (.int .i64 (at_ : Int))) (some (.int .i64 (s : Int))) none).run Tryz.prog wx = .ok (.slice (further al cap at_) k (cap - at_)) wx := fun wx => by
                have := slice_midT al n cap at_ s (by omega) (by omega) wx
                rw [show s - at_ = k by omega] at this
                exact this
              have hpart : ∀ wx, Below w.heap.size w wx → Nm.Rd wx (.slice (further al cap at_) k (cap - at_)) ((ls.drop at_).take k) := fun wx hx => by
                have := rd_part HN.out (HRW.out.below hx) at_ (at_ + k) (by omega) (by omega)
                rw [Nat.add_sub_cancel_left] at this
                exact this
              obtain ⟨ap, hap⟩ : ∃ x, further al cap at_ = x := ⟨_, rfl⟩
              obtain ⟨cpp, hcpp⟩ : ∃ x, cap - at_ = x := ⟨_, rfl⟩
              simp only [hap, hcpp] at hsl hpart
              obtain ⟨PB, hPB⟩ : ∃ x, (ls.drop at_).take k = x := ⟨_, rfl⟩
              obtain ⟨BB, hBB⟩ : ∃ x, blocks ep q = x := ⟨_, rfl⟩
              obtain ⟨nb, hnb⟩ : ∃ x, BB.length = x := ⟨_, rfl⟩
              have CB : Hid (∀ wx, Below wr.heap.size wr wx → Calls Tryz.prog 71 #[.int .u32 (ep : Int), .slice aq q.length cq] wx fun e w' => ∃ ax cx, e = .returned (.slice ax nb cx) ∧ Nm.Rd w' (.slice ax nb cx) BB ∧ Nm.Rd w' (.slice ap k cpp) PB ∧ Below wr.heap.size wr w') := fun wx hx => by
                refine (refblocks ep (.slice aq q.length cq) q wx hep (hO.out.below hx).rd hO.out.nz (by omega)).mono ?_
                rintro e w' ⟨x, rfl, ho, hb⟩
                have hbw : Below wr.heap.size wr w' := hx.trans (hb.mono hx.size)
                have hrd := Nm.rd_own ho
                obtain ⟨ax, cx, e1, _⟩ := id hrd
                rw [hBB] at hrd e1
                subst e1
                rw [hnb] at hrd ⊢
                have hp := hpart w' (hB.out.trans (hbw.mono hB.out.size))
                rw [hPB] at hp
                exact ⟨ax, cx, rfl, hrd, hp, hbw⟩
              have CS : Hid (∀ wx v1 v2, Below wr.heap.size wr wx → Nm.Rd wx v1 BB → Nm.Rd wx v2 PB → Calls Tryz.prog 82 #[v1, v2] wx fun e w' => e = .returned (.bool bb) ∧ Below wr.heap.size wr w') := fun wx v1 v2 hx h1 h2 => by
                refine (Nm.same_l v1 v2 BB PB wx h1 h2).mono ?_
                rintro e w' ⟨rfl, m, rfl⟩
                rw [← hbb, hBB, hPB]
                exact ⟨rfl, below_dn hx m⟩
              have HBB := Hid.mk' hbb
              have hqI : ((q.length : Int) != (z : Int)) = false := by simp [hq]
              have hakI : (at_ : Int) + (k : Int) ≤ (n : Int) := by omega
              have hs0 : (s : Int) ≤ 140737488351232 := by omega
              have hs1 : (at_ : Int) ≤ (s : Int) := by omega
              have hs2 : (s : Int) ≤ (cap : Int) := by omega
              have hs3 : (s : Int) ≤ (n : Int) := by omega
              have hw2 := (wrapS s hsle).1
              have hw3 := (wrapS s hsle).2
              clear hbb hpart hap hcpp hPB hBB hnb hq hs hal
              go_wp2_with fail
              go_region_held3 (fun w' => Below wr.heap.size wr w') (first | assumption | exact Below.refl _ _ | exact (Below.refl _ _).drew) (first | (go_at_call 71; with_reducible refine (CB.out _ ?hb).mono ?_; (case hb => (first | exact Below.refl _ _ | exact (Below.refl _ _).drew | fail)); rintro e w5 ⟨ax, cx, rfl, hr1, hr2, hb5⟩) | (go_at_call 82; with_reducible refine (CS.out _ _ _ hb5 ?h1 ?h2).mono ?_; (case h1 => (first | exact hr1 | fail)); (case h2 => (first | exact hr2 | fail)); rintro e w6 ⟨rfl, hb6⟩) | fail)
              have hbw : Below wr.heap.size wr w6 := hb6
              have hbz : Below w.heap.size w w6 := hB.out.trans (hbw.mono hB.out.size)
              have HO6 := Hid.mk' (hO.out.below hbw)
              have HBZ := Hid.mk' hbz
              clear hb5 hb6 hbw hbz hr1 hr2
              cases bb with
              | false =>
                go_wp2
                go_ret3
                exact ans_no (by rw [hqz.out, if_neg (of_decide_eq_false HBB.out)]) _ _ rfl HBZ.out
              | true =>
                go_wp2
                go_ret3
                exact ans_yes (by rw [hqz.out, if_pos (of_decide_eq_true HBB.out)]) _ rfl HO6.out HBZ.out
            · have hr : Hid (ans = none) := by
                show _ = _
                rw [HGX.out]
                simp only
                rw [if_pos (by simpa using hq)]
              have hqI : ((q.length : Int) != (z : Int)) = true := by
                simp
                omega
              clear hq
              go_wp2
              go_ret3
              exact ans_no hr.out _ _ rfl hB.out
  · have h1I : (n : Int) ≤ (at_ : Int) := by omega
    have hr : Hid (ans = none) := by
      show _ = _
      rw [← HA.out, List.drop_eq_nil_of_le (by have := HN.out; omega)]
      exact one_nil ep
    go_enter Tryz.func72, Tryz.ntmps72
    go_wp2
    go_ret3
    exact ans_no hr.out _ _ rfl (Below.refl _ _)
end Rc
end Go.Proofs.YthdibodmnpcekaaGreatDoor
/- What the program's calls on records must answer; small contracts that the laws share. -/
namespace Go.Proofs.YthdibodmnpcekaaGreatDoor
set_option linter.ambiguousOpen false
open Go.RowKit
namespace Rc
open Sm Pk
set_option linter.unusedSimpArgs false
set_option linter.unusedVariables false

/-- The blocks that Frame answers. -/
def framed (ep : Nat) (p : List UInt8) : List (List UInt8) := if 512 < p.length then [] else blocks ep p

theorem framed_len (ep : Nat) (p : List UInt8) : (framed ep p).length ≤ 3 := by
  unfold framed
  split
  · simp
  · rw [blocks_len]
    omega

/-- What Frame must answer. -/
def FrameC : Prop := ∀ (w : World) (ep : Nat) (v : Value) (p : List UInt8), ep < 4294967296 → RdB w v p → Nz v → p.length ≤ 140737488351232 → Calls Tryz.prog 48 #[.int .u32 (ep : Int), v] w fun e w' => ∃ r, e = .returned (.tuple #[r, errE (if 512 < p.length then 3 else 0)]) ∧ w'.ownsRow w.heap.size 9 1 r (framed ep p).length ((framed ep p).map Nm.txt) ∧ Below w.heap.size w w'

/-- Payloads, each a row of the call's own, in blocks of their own. -/
structure Rows (w : World) (base : Nat) (vs : List Value) (ps : List (List UInt8)) : Prop where
  len : vs.length = ps.length
  own : ∀ (k : Nat) (v : Value) (p : List UInt8), vs[k]? = some v → ps[k]? = some p → w.ownsRow base 5 1 v p.length (p.map by1)
  apart : ∀ (j k : Nat) (u v : Value), j ≠ k → vs[j]? = some u → vs[k]? = some v → Nm.Sep u v

/-- What Scan must answer. -/
def ScanC : Prop := ∀ (w : World) (ep : Nat) (v : Value) (ls : List (List UInt8)), ep < 4294967296 → Nm.Rd w v ls → ls.length ≤ 5000000000000 → (∀ t ∈ ls, t.length ≤ 140737488350000) → Calls Tryz.prog 17 #[.int .u32 (ep : Int), v] w fun e w' => ∃ r vs, e = .returned (.tuple #[r, nu ((scan ep ls).2.2 : Int)]) ∧ w'.ownsRow w.heap.size 46 1 r vs.length vs ∧ Rows w' w.heap.size vs (scan ep ls).1 ∧ (∀ v ∈ vs, Nm.Sep r v) ∧ Below w.heap.size w w'

theorem sep_later {w w' : World} {B : Nat} {va vb : Value} {n m : Nat} {e e' : TypeId} {xs ys : List Value} {b0 : Nat} (ha : w.ownsRow b0 e 1 va n xs) (hb : w'.ownsRow B e' 1 vb m ys) (h : w.heap.size ≤ B) : Nm.Sep va vb := by
  intro b h1 h2
  have := (ha.lt b h1).2
  have := (hb.lt b h2).1
  omega

end Rc
end Go.Proofs.YthdibodmnpcekaaGreatDoor
/- Payloads in rows of their own: what growing worlds leave of them. -/
namespace Go.Proofs.YthdibodmnpcekaaGreatDoor
set_option linter.ambiguousOpen false
open Go.RowKit
namespace Rc
open Sm Pk
set_option linter.unusedSimpArgs false
set_option linter.unusedVariables false

/-- Rows of unlike things lie in unlike blocks. -/
theorem own_sep {w : World} {b b' n m s s' : Nat} {e e' : TypeId} {u v : Value} {xs ys : List Value} (h : w.ownsRow b e s u n xs) (h' : w.ownsRow b' e' s' v m ys) (hne : e ≠ e') : Nm.Sep u v := by
  intro k hk hk'
  rcases h.2 with ⟨rfl, _⟩ | ⟨g, cap, cur, rfl, _, hg, _⟩
  · simp [Value.ownBlock] at hk
  · rcases h'.2 with ⟨rfl, _⟩ | ⟨g', cap', cur', rfl, _, hg', _⟩
    · simp [Value.ownBlock] at hk'
    · obtain rfl : g = k := by simpa [Value.ownBlock] using hk
      obtain rfl : g' = g := by simpa [Value.ownBlock] using hk'
      rw [hg] at hg'
      simp at hg'
      exact hne hg'.2

theorem sep_keptR {u v : Value} (h : Nm.Sep u v) : v.ownBlock = none ∨ v.ownBlock ≠ u.ownBlock := by
  cases hv : v.ownBlock with
  | none => exact .inl rfl
  | some b => exact .inr (fun e => h b e.symm hv)

theorem sep_box {b : Nat} {v : Value} {w : World} {base n : Nat} {e : TypeId} {s : Nat} {xs : List Value} (h : w.ownsRow base e s v n xs) (hb : b < base) : v.ownBlock = none ∨ v.ownBlock ≠ some b := by
  cases hv : v.ownBlock with
  | none => exact .inl rfl
  | some g =>
    refine .inr (fun e => ?_)
    have := (h.lt g hv).1
    cases e
    omega

theorem Rows.kept {w w' : World} {base : Nat} {vs : List Value} {ps : List (List UInt8)} {row : Option Nat} (h : Rows w base vs ps) (hg : w.grownBy w' row) (hr : ∀ v ∈ vs, v.ownBlock = none ∨ v.ownBlock ≠ row) : Rows w' base vs ps :=
  ⟨h.len, fun k v p hv hp => (h.own k v p hv hp).kept hg (hr v (List.mem_of_getElem? hv)), h.apart⟩

theorem Rows.at_ {w : World} {base : Nat} {vs : List Value} {ps : List (List UInt8)} (h : Rows w base vs ps) {v : Value} (hv : v ∈ vs) : ∃ p : List UInt8, w.ownsRow base 5 1 v p.length (p.map by1) := by
  obtain ⟨j, hj, rfl⟩ := List.getElem_of_mem hv
  have hp : ps[j]? = some (ps[j]'(by rw [← h.len]; exact hj)) := List.getElem?_eq_getElem _
  exact ⟨_, h.own j vs[j] _ (List.getElem?_eq_getElem hj) hp⟩

theorem Rows.below {w w' : World} {base : Nat} {vs : List Value} {ps : List (List UInt8)} (h : Rows w base vs ps) (hb : Below w.heap.size w w') : Rows w' base vs ps :=
  ⟨h.len, fun k v p hv hp => own_keptB (h.own k v p hv hp) hb, h.apart⟩

theorem Rows.mono {w : World} {b c : Nat} {vs : List Value} {ps : List (List UInt8)} (h : Rows w b vs ps) (hc : c ≤ b) : Rows w c vs ps :=
  ⟨h.len, fun k v p hv hp => own_mono (h.own k v p hv hp) hc, h.apart⟩

/-- One more, in memory that is newer. -/
theorem Rows.snoc {w : World} {base H : Nat} {vs : List Value} {ps : List (List UInt8)} {v : Value} {p : List UInt8} (h : Rows w base vs ps) (hv : w.ownsRow H 5 1 v p.length (p.map by1)) (hb : base ≤ H) (hlt : ∀ u ∈ vs, ∀ b, u.ownBlock = some b → b < H) : Rows w base (vs ++ [v]) (ps ++ [p]) := by
  have hsep : ∀ u ∈ vs, Nm.Sep u v := fun u hu b h1 h2 => by
    have e1 := hlt u hu b h1
    have e2 := (hv.lt b h2).1
    omega
  have hsp : ∀ {k : Nat} {u : Value}, (vs ++ [v])[k]? = some u → (k < vs.length ∧ vs[k]? = some u) ∨ (k = vs.length ∧ u = v) := fun {k u} hk => by
    rcases Nat.lt_or_ge k vs.length with hl | hl
    · rw [List.getElem?_append_left hl] at hk
      exact .inl ⟨hl, hk⟩
    · rw [List.getElem?_append_right hl] at hk
      obtain ⟨j, hj⟩ : ∃ j, k - vs.length = j := ⟨_, rfl⟩
      rw [hj] at hk
      cases j with
      | zero =>
        simp at hk
        exact .inr ⟨by omega, hk.symm⟩
      | succ j => simp at hk
  refine ⟨by rw [List.length_append, List.length_append, h.len]; rfl, fun k u q hu hq => ?_, fun j k u x hne hu hx => ?_⟩
  · rcases hsp hu with ⟨hl, hu⟩ | ⟨rfl, rfl⟩
    · rw [List.getElem?_append_left (by rw [← h.len]; exact hl)] at hq
      exact h.own k u q hu hq
    · rw [h.len, List.getElem?_append_right (Nat.le_refl _), Nat.sub_self] at hq
      simp at hq
      subst hq
      exact own_mono hv hb
  · rcases hsp hu with ⟨hl, hu2⟩ | ⟨e1, e2⟩
    · rcases hsp hx with ⟨hl', hx2⟩ | ⟨e3, e4⟩
      · exact h.apart j k u x hne hu2 hx2
      · rw [e4]
        exact hsep u (List.mem_of_getElem? hu2)
    · rcases hsp hx with ⟨hl', hx2⟩ | ⟨e3, e4⟩
      · rw [e2]
        exact (hsep x (List.mem_of_getElem? hx2)).symm
      · exact absurd (e1.trans e3.symm) hne

end Rc
end Go.Proofs.YthdibodmnpcekaaGreatDoor
