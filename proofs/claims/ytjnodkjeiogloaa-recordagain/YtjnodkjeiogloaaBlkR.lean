/- The document's blocks of a record. -/
import Derived.Test.YtjnodkjeiogloaaRnumR
import Derived.Test.YtjnodkjeiogloaaAppR
import Derived.Test.YtjnodkjeiogloaaListsY
import Derived.Test.YtjnodkjeiogloaaRegs
import Derived.Test.YtjnodkjeiogloaaRefTk
import Derived.Test.YtjnodkjeiogloaaFoot
import Derived.Test.YtjnodkjeiogloaaSame
import Derived.Test.YtjnodkjeiogloaaBasR
namespace Go.Proofs.Ytjnodkjeiogloaa
set_option linter.ambiguousOpen false
open Go.RowKit
namespace Rc
open Sm Pk
set_option linter.unusedSimpArgs false
set_option linter.unusedVariables false

/-- What has been gathered: a row of this call's own. -/
structure Ga (w0 w : World) (v : Value) (l : List UInt8) (n : Nat) : Prop where
  own : w.ownsRow w0.heap.size 5 1 v n (l.map by1)
  len : l.length = n
  bel : Below w0.heap.size w0 w

theorem Ga.shape {w0 w : World} {v : Value} {l : List UInt8} {n : Nat} (h : Ga w0 w v l n) : ∃ a cap, v = .slice a n cap := by
  obtain ⟨a, cap, e, _⟩ := Nm.own_shape h.own
  exact ⟨a, cap, e⟩

theorem Ga.rd {w0 w : World} {v : Value} {l : List UInt8} {n : Nat} (h : Ga w0 w v l n) : RdB w v l := own_rd' h.own h.len

theorem Ga.below {w0 w w' : World} {v : Value} {l : List UInt8} {n : Nat} (h : Ga w0 w v l n) (hb : Below w.heap.size w w') : Ga w0 w' v l n :=
  ⟨(Ft.Keep.of_below (F := fun _ => False) hb).own h.own (fun _ _ h => h), h.len, h.bel.trans (hb.mono h.bel.size)⟩

theorem Ga.more {w0 w w4 : World} {v v' : Value} {l m L : List UInt8} {n N : Nat} (h : Ga w0 w v l n) (hg : w.grownBy w4 v.ownBlock) (hL : l ++ m = L) (hN : n + m.length = N) (ho : w4.ownsRow w0.heap.size 5 1 v' (n + m.length) (l.map by1 ++ m.map by1)) : Ga w0 w4 v' L N := by
  subst hL
  subst hN
  refine ⟨?_, by rw [List.length_append, h.len], Below.grown h.bel hg h.bel.size (fun k hk => (h.own.lt k hk).1)⟩
  rw [List.map_append]
  exact ho

/-- Another row stays, where one was appended to. -/
theorem Ga.other {w0 w w4 : World} {v u : Value} {l : List UInt8} {n : Nat} (h : Ga w0 w v l n) (hg : w.grownBy w4 u.ownBlock) (hs : Nm.Sep v u) (hu : ∀ k, u.ownBlock = some k → w0.heap.size ≤ k) : Ga w0 w4 v l n := by
  refine ⟨h.own.kept hg ?_, h.len, Below.grown h.bel hg h.bel.size hu⟩
  cases hv : v.ownBlock with
  | none => exact .inl rfl
  | some b => exact .inr (fun e => hs b hv e.symm)

theorem min_two (a b : Int) (w : World) : (Builtin.min_ #[3, 3] 3 #[.int .i64 a, .int .i64 b]).run Try.prog w = .ok (.int .i64 (if b < a then b else a)) w := run_min_int2 ..

theorem restB_at (f : Nat) (q : List UInt8) (i : Nat) (hf : q.length ≤ f) : (restB q)[i]? = if 255 * i < q.length then some (99 :: (q.drop (255 * i)).take 255) else none := by
  induction f generalizing q i with
  | zero =>
    have : q = [] := List.length_eq_zero_iff.1 (by omega)
    subst this
    simp [restB_nil]
  | succ f ih =>
    by_cases hq : q = []
    · subst hq
      simp [restB_nil]
    · have h0 : 0 < q.length := List.length_pos_iff.2 hq
      rw [restB_cons q hq]
      cases i with
      | zero => simp [h0]
      | succ i =>
        rw [List.getElem?_cons_succ, ih (q.drop 255) i (by rw [List.length_drop]; omega), List.length_drop, List.drop_drop]
        by_cases hc : 255 * (i + 1) < q.length
        · rw [if_pos hc, if_pos (by omega), show 255 + 255 * i = 255 * (i + 1) by omega]
        · rw [if_neg hc, if_neg (by omega)]

theorem tx_cons (l : List UInt8) : (⟨#[99]⟩ : ByteArray) ++ tx l = tx (99 :: l) := by
  apply ByteArray.ext
  simp [tx]

set_option maxRecDepth 100000 in
set_option maxHeartbeats 4000000 in
theorem refblocks (ep : Nat) (v : Value) (p : List UInt8) (w : World) (hep : ep < 4294967296) (hR : RdB w v p) (hz : Nz v) (hl : p.length ≤ 512) :
    Calls Try.prog 33 #[.int .u32 (ep : Int), v] w fun e w' => ∃ x, e = .returned x ∧ w'.ownsRow w.heap.size 9 1 x (blocks ep p).length ((blocks ep p).map Nm.txt) ∧ Below w.heap.size w w' := by
  obtain ⟨i0, ji, hz0, hz1, hz2⟩ := info_parts (show (Try.prog.info? 9).map (fun i => (i.zero, i.size, i.bytes)) = some (some (.string ⟨#[]⟩), 1, 16) by kernel_rfl)
  have HR := Hid.mk' hR
  have HZ := Hid.mk' hz
  obtain ⟨n, hn⟩ : ∃ n, p.length = n := ⟨_, rfl⟩
  obtain ⟨L1, hL1⟩ : ∃ L, [104] ++ lo ep 4 = L := ⟨_, rfl⟩
  obtain ⟨L2, hL2⟩ : ∃ L, L1 ++ lo n 2 = L := ⟨_, rfl⟩
  obtain ⟨A, hA⟩ : ∃ L, L2 ++ p = L := ⟨_, rfl⟩
  obtain ⟨c, hc⟩ : ∃ c, crc A = c := ⟨_, rfl⟩
  obtain ⟨L3, hL3⟩ : ∃ L, L2 ++ lo c 4 = L := ⟨_, rfl⟩
  obtain ⟨k0, hk0⟩ : ∃ k, min 245 n = k := ⟨_, rfl⟩
  obtain ⟨L4, hL4⟩ : ∃ L, L3 ++ p.take k0 = L := ⟨_, rfl⟩
  have hcl : c < 4294967296 := by
    rw [← hc]
    unfold crc
    omega
  have n1 : L1.length = 5 := by rw [← hL1]; simp [lo_len]
  have n2 : L2.length = 7 := by rw [← hL2, List.length_append, n1, lo_len]
  have n3 : L3.length = 11 := by rw [← hL3, List.length_append, n2, lo_len]
  have hF : Hid (firstB ep p = L4) := by
    show _ = _
    rw [← hL4, ← hL3, ← hc, ← hA, ← hL2, ← hL1, ← hk0, firstB, topB, headB, hn]
    congr 1
    rcases Nat.le_total 245 n with h | h
    · rw [Nat.min_eq_left h]
    · rw [Nat.min_eq_right h, List.take_of_length_le (by omega), List.take_of_length_le (by omega)]
  have c1 := Hid.mk' (fun wx => number_any ep 4 wx (by omega) (by omega))
  have c2 := Hid.mk' (fun wx => number_any n 2 wx (by omega) (by omega))
  have c5 := Hid.mk' (fun wx => number_any c 4 wx (by omega) (by omega))
  have c3 := Hid.mk' (fun v wx h => copyB_any v L2 wx h (by omega))
  have c4 : Hid (∀ v wx, RdB wx v A → Calls Try.prog 43 #[v] wx fun e w' => e = .returned (.int .u32 (c : Int)) ∧ w' = wx) := fun v wx h => by
    have := refof_any v A wx h
    rw [hc] at this
    exact this
  have hmin : ∀ wx, (Builtin.min_ #[3, 3] 3 #[.int .i64 245, .int .i64 (n : Int)]).run Try.prog wx = .ok (.int .i64 (k0 : Int)) wx := fun wx => by
    rw [min_two, ← hk0]
    congr 2
    split <;> omega
  obtain ⟨a, cap, rfl, hc1, hc2, _⟩ := id hR
  rw [hn] at hc1 hl ⊢
  have hk0n : k0 ≤ n := by omega
  have hsl := fun wx => slice_to a n cap k0 (by omega) wx
  have HRt : Hid (∀ wx, RdB wx (.slice a n cap) p → RdB wx (.slice a k0 cap) (p.take k0)) := fun wx h => by
    rw [← hn] at h
    exact h.take k0 (by omega)
  rw [hn] at HR
  obtain ⟨r, hr⟩ : ∃ r, (restB (p.drop 245)).length = r := ⟨_, rfl⟩
  have hrl : r = (n - 245 + 254) / 255 := by
    rw [← hr, restB_len p.length _ (by rw [List.length_drop]; omega), List.length_drop, hn]
  have hat : Hid (∀ i, i < r → (restB (p.drop 245))[i]? = some (99 :: (p.drop (245 + 255 * i)).take (min (245 + 255 * i + 255) n - (245 + 255 * i)))) := fun i hi => by
    have := restB_at p.length (p.drop 245) i (by rw [List.length_drop]; omega)
    rw [if_pos (by rw [List.length_drop]; omega), List.drop_drop] at this
    rw [this]
    congr 2
    rcases Nat.le_total (245 + 255 * i + 255) n with h | h
    · rw [Nat.min_eq_left h]
      congr 1
      omega
    · rw [Nat.min_eq_right h, List.take_of_length_le (by rw [List.length_drop]; omega), List.take_of_length_le (by rw [List.length_drop]; omega)]
  have HRL := Hid.mk' hr
  have HFB : Hid (blocks ep p = L4 :: restB (p.drop 245)) := by
    show _ = _
    rw [blocks, hF.out]
  have hk0' : Hid ((k0 : Int) = ((min (245 + 255 * 0) n : Nat) : Int)) := by
    show _ = _
    rw [← hk0]
  have HRd : Hid (∀ wx k j, k ≤ j → j ≤ n → RdB wx (.slice a n cap) p → RdB wx (.slice (further a cap k) (j - k) (cap - k)) ((p.drop k).take (j - k))) := fun wx k j h1 h2 h => by
    rw [← hn] at h
    have h3 := h.drop k (by omega)
    rw [show p.length - k = (p.drop k).length by rw [List.length_drop]] at h3
    exact h3.take (j - k) (by rw [List.length_drop]; omega)
  clear hr
  have HL1 := Hid.mk' hL1
  have HL2 := Hid.mk' hL2
  have HA := Hid.mk' hA
  have HL3 := Hid.mk' hL3
  have HL4 := Hid.mk' hL4
  have HNP := Hid.mk' hn
  have m1 : Hid (1 + (lo ep 4).length ≤ 140737488355328) := by show _ ≤ _; rw [lo_len]; decide
  have m2 : Hid (5 + (lo n 2).length ≤ 140737488355328) := by show _ ≤ _; rw [lo_len]; decide
  have m3 : Hid (7 + p.length ≤ 140737488355328) := by show _ ≤ _; omega
  have m4 : Hid (7 + (lo c 4).length ≤ 140737488355328) := by show _ ≤ _; rw [lo_len]; decide
  have m5 : Hid (11 + (p.take k0).length ≤ 140737488355328) := by show _ ≤ _; rw [List.length_take]; omega
  have p1 : Hid (1 + (lo ep 4).length = 5) := by show _ = _; rw [lo_len]
  have p2 : Hid (5 + (lo n 2).length = 7) := by show _ = _; rw [lo_len]
  have p3 : Hid (7 + p.length = 7 + n) := by show _ = _; rw [hn]
  have p4 : Hid (7 + (lo c 4).length = 11) := by show _ = _; rw [lo_len]
  have p5 : Hid (11 + (p.take k0).length = 11 + k0) := by show _ = _; rw [List.length_take]; omega
  have HZK : Hid (Nz (.slice a k0 cap)) := by
    rcases hz with h | ⟨ad, m, c', h⟩
    · obtain ⟨rfl, h0, rfl⟩ : a = none ∧ p.length = 0 ∧ cap = 0 := by simpa using h
      exact .inl (by rw [show k0 = 0 by omega])
    · obtain ⟨rfl, h0, rfl⟩ : a = some ad ∧ p.length = m ∧ cap = c' := by simpa using h
      exact .inr ⟨_, _, _, rfl⟩
  have G0 : Hid (Ga w (w.alloc (.cells #[.int .u8 104] 5)) (.slice (some ⟨w.heap.size, 0, none⟩) 1 1) [104] 1) := ⟨World.ownsRow_lit (size := 1) w #[.int .u8 104] 1 (Nat.le_refl _) (by decide) rfl, rfl, (Below.refl _ _).alloc (Nat.le_refl _) _⟩
  rw [hn] at HZ
  clear hR hz hL1 hL2 hA hc hL3 hL4 n1 hk0 hn
  go_enter Try.func33, Try.ntmps33
  go_wp2_with fail
  refine (c1.out _).mono ?_
  rintro e x1 ⟨y1, rfl, ho1, hb1⟩
  have HG1 := Hid.mk' (G0.out.below hb1)
  have HR1 : Hid (RdB x1 y1 (lo ep 4)) := own_rd' ho1 (lo_len _ _)
  have HZ1 : Hid (Nz y1) := nz_own ho1
  obtain ⟨a1, cp1, rfl, _⟩ := Nm.own_shape ho1
  clear ho1 hb1 c1 G0
  go_wp2_with (at_builtin; refine wpList_append_rowP rfl _ _ rfl w.heap.size 1 _ _ _ (lo ep 4) rfl rfl HG1.out.own HR1.out HZ1.out m1.out HG1.out.bel.size ?_; intro v2 w2 oo og ov; have HG2 : Hid (Ga w w2 v2 L1 5) := HG1.out.more og HL1.out p1.out oo; obtain ⟨ga2, gc2, rfl⟩ := HG2.out.shape; clear oo og ov)
  refine (c2.out _).mono ?_
  rintro e x2 ⟨y2, rfl, ho2, hb2⟩
  have HG3 := Hid.mk' (HG2.out.below hb2)
  have HR2 : Hid (RdB x2 y2 (lo n 2)) := own_rd' ho2 (lo_len _ _)
  have HZ2 : Hid (Nz y2) := nz_own ho2
  obtain ⟨a2, cp2, rfl, _⟩ := Nm.own_shape ho2
  clear ho2 hb2 c2 HG2 HG1 HR1 HZ1
  go_wp2_with (at_builtin; refine wpList_append_rowP rfl _ _ rfl w.heap.size 5 _ _ _ (lo n 2) rfl rfl HG3.out.own HR2.out HZ2.out m2.out HG3.out.bel.size ?_; intro v3 w3 oo og ov; have HG4 : Hid (Ga w w3 v3 L2 7) := HG3.out.more og HL2.out p2.out oo; obtain ⟨ga4, gc4, rfl⟩ := HG4.out.shape; clear oo og ov)
  refine (c3.out _ _ HG4.out.rd).mono ?_
  rintro e x4 ⟨y4, rfl, ho4, hb4⟩
  rw [n2] at ho4
  have HG5 := Hid.mk' (HG4.out.below hb4)
  have HQ5 : Hid (Ga w x4 y4 L2 7) := ⟨own_mono ho4 HG4.out.bel.size, n2, HG5.out.bel⟩
  have HS5 : Hid (Nm.Sep (.slice ga4 7 gc4) y4) := fun b h1 h2 => by
    have q1 := (HG4.out.own.lt b h1).2
    have q2 := (ho4.lt b h2).1
    omega
  obtain ⟨a4, cp4, rfl, _⟩ := Nm.own_shape ho4
  have HRp4 := Hid.mk' (HR.out.below HG5.out.bel)
  clear ho4 hb4 c3 HG4 HG3 HR2 HZ2
  go_wp2_with (at_builtin; refine wpList_append_rowP rfl _ _ rfl w.heap.size 7 _ _ _ p rfl rfl HQ5.out.own HRp4.out HZ.out m3.out HQ5.out.bel.size ?_; intro v5 w5 oo og ov; have HQ6 : Hid (Ga w w5 v5 A (7 + n)) := HQ5.out.more og HA.out p3.out oo; have HG6 : Hid (Ga w w5 (.slice ga4 7 gc4) L2 7) := HG5.out.other og HS5.out (fun k hk => (HQ5.out.own.lt k hk).1); obtain ⟨ga6, gc6, rfl⟩ := HQ6.out.shape; clear oo og ov)
  refine (c4.out _ _ HQ6.out.rd).mono ?_
  rintro e x6 ⟨rfl, rfl⟩
  clear c4 HQ5 HG5 HS5 HRp4
  go_wp2_with fail
  refine (c5.out _).mono ?_
  rintro e x7 ⟨y7, rfl, ho7, hb7⟩
  have HG7 := Hid.mk' (HG6.out.below hb7)
  have HR7 : Hid (RdB x7 y7 (lo c 4)) := own_rd' ho7 (lo_len _ _)
  have HZ7 : Hid (Nz y7) := nz_own ho7
  obtain ⟨a7, cp7, rfl, _⟩ := Nm.own_shape ho7
  clear ho7 hb7 c5 HG6 HQ6
  go_wp2_with (first | (at_builtin; refine wpList_append_rowP rfl _ _ rfl w.heap.size 7 _ _ _ (lo c 4) rfl rfl HG7.out.own HR7.out HZ7.out m4.out HG7.out.bel.size ?_; intro v8 w8 oo og ov; have HG8 : Hid (Ga w w8 v8 L3 11) := HG7.out.more og HL3.out p4.out oo; obtain ⟨ga8, gc8, rfl⟩ := HG8.out.shape; have HR8 := Hid.mk' (HRt.out _ (HR.out.below HG8.out.bel)); clear oo og ov) | (at_builtin; refine wpList_append_rowP rfl _ _ rfl w.heap.size 11 _ _ _ (p.take k0) rfl rfl HG8.out.own HR8.out HZK.out m5.out HG8.out.bel.size ?_; intro v9 w9 oo og ov; have HG9 : Hid (Ga w w9 v9 L4 (11 + k0)) := HG8.out.more og HL4.out p5.out oo; obtain ⟨ga9, gc9, rfl⟩ := HG9.out.shape; have hcv := conv_rd HG9.out.rd; clear oo og ov) | fail)
  have HO0 : Hid ((w9.alloc (.cells #[.string (tx L4)] 9)).ownsRow w.heap.size 9 1 (.slice (some ⟨w9.heap.size, 0, none⟩) 1 1) (1 + 0) ((L4 :: (restB (p.drop 245)).take 0).map Nm.txt)) := World.ownsRow_lit (size := 1) w9 #[.string (tx L4)] 1 HG9.out.bel.size (by decide) rfl
  have HB0 : Hid (Below w.heap.size w (w9.alloc (.cells #[.string (tx L4)] 9))) := HG9.out.bel.alloc HG9.out.bel.size _
  clear hcv HG9 HG8 HR8 HG7 HR7 HZ7 hmin hsl HRt HZK m1 m2 m3 m4 m5 p1 p2 p3 p4 p5
  go_loopw [8, 9, 10, 11] (fun kv lv iv _ wr => ∃ i : Nat, i ≤ r ∧ iv = nu (i : Int) ∧ kv = nu ((min (245 + 255 * i) n : Nat) : Int) ∧ Hid (wr.ownsRow w.heap.size 9 1 lv (1 + i) ((L4 :: (restB (p.drop 245)).take i).map Nm.txt)) ∧ Hid (Below w.heap.size w wr)) (fun _ _ iv _ _ => r - (intOf iv).toNat)
  case atStart => exact ⟨0, Nat.zero_le _, rfl, by rw [hk0'.out], HO0, HB0⟩
  case round =>
  clear HO0 HB0
  obtain ⟨i, hi, rfl, rfl, hO, hB⟩ := hrel
  by_cases hir : i < r
  · have hkn : 245 + 255 * i < n := by omega
    obtain ⟨k, hk⟩ : ∃ k, 245 + 255 * i = k := ⟨_, rfl⟩
    have HAT := Hid.mk' (hat.out i hir)
    rw [hk] at HAT hkn
    rw [hk, Nat.min_eq_left (by omega : k ≤ n)]
    have hiI : (i : Int) < (n : Int) := by omega
    have hkI : (k : Int) < (n : Int) := by omega
    have hkM : (k : Int) + 255 ≤ 1000 := by omega
    obtain ⟨j, hj⟩ : ∃ j, min (k + 255) n = j := ⟨_, rfl⟩
    rw [hj] at HAT
    have hjI : Hid (((min (245 + 255 * (i + 1)) n : Nat) : Int) = (j : Int)) := by
      show _ = _
      rw [← hj, ← hk]
      congr 2
    have hmin : ∀ wx, (Builtin.min_ #[3, 3] 3 #[.int .i64 ((k : Int) + 255), .int .i64 (n : Int)]).run Try.prog wx = .ok (.int .i64 (j : Int)) wx := fun wx => by
      rw [min_two, ← hj]
      congr 2
      split <;> omega
    have hjn : j ≤ n := by omega
    have hkj : k ≤ j := by omega
    have hsl := fun wx => slice_midP a n cap k j hkj (by omega) wx
    have hrd := HRd.out wr k j hkj hjn (HR.out.below hB.out)
    have hcv := conv_rd hrd
    obtain ⟨u, hu⟩ : ∃ u, (p.drop k).take (j - k) = u := ⟨_, rfl⟩
    have hul : u.length ≤ 512 := by
      rw [← hu, List.length_take]
      omega
    rw [hu] at hcv HAT
    obtain ⟨f, hf⟩ : ∃ f, tx u = f := ⟨_, rfl⟩
    have hfs : f.size = u.length := by
      rw [← hf]
      rfl
    have HF2 : Hid ((⟨#[99]⟩ : ByteArray) ++ f = tx (99 :: u)) := by
      show _ = _
      rw [← hf]
      exact tx_cons u
    rw [hf] at hcv
    have hfs2 : f.size ≤ 512 := by omega
    obtain ⟨a', ha'⟩ : ∃ x, further a cap k = x := ⟨_, rfl⟩
    obtain ⟨d', hd'⟩ : ∃ x, j - k = x := ⟨_, rfl⟩
    obtain ⟨c', hc'⟩ : ∃ x, cap - k = x := ⟨_, rfl⟩
    rw [ha', hd', hc'] at hcv
    simp only [ha', hd', hc'] at hsl
    clear ha' hd' hc' hrd hu hf hfs hk hj
    obtain ⟨F2, hF2⟩ : ∃ x, (⟨#[99]⟩ : ByteArray) ++ f = x := ⟨_, rfl⟩
    rw [hF2] at HF2
    have hS : Hid ((L4 :: (restB (p.drop 245)).take (i + 1)).map Nm.txt = (L4 :: (restB (p.drop 245)).take i).map Nm.txt ++ [.string F2]) := by
      show _ = _
      rw [List.take_add_one, HAT.out, HF2.out]
      simp
      rfl
    have hone : Hid (∀ x ∈ [Value.string F2], x.oneCell' = true) := by intro x hx; simp at hx; subst hx; rfl
    have hmx : Hid (1 + i + 1 ≤ maxLen) := by show _ ≤ _; unfold maxLen; omega
    have hby : Hid ((1 + i + 1) * 16 ≤ 140737488355328) := by show _ ≤ _; omega
    have hws : Hid (w.heap.size ≤ wr.heap.size) := hB.out.size
    clear HF2 HAT
    go_wp2_with (at_builtin; refine wpList_append_own _ rfl _ _ 23 rfl w.heap.size 9 i0 (.string ⟨#[]⟩) 1 16 Try.underlying23 ji hz0 hz1 hz2 rfl (by decide) _ _ _ rfl (hO.out.alloc _) ⟨wr.heap.size, 0, none⟩ 1 1 [.string F2] rfl rfl (cell_one_new _ _ _) hone.out hmx.out hby.out (by have := hws.out; simp; omega) ?_; intro v' w4 hown4 hgrow _; rw [← hS.out] at hown4; have hO4 := Hid.mk' hown4; have hB4 : Hid (Below w.heap.size w w4) := Below.grown (hB.out.alloc hws.out _) hgrow (by have := hws.out; simp; omega) (fun k hk => (hO.out.lt k hk).1); clear hown4 hgrow)
    go_wp2
    go_roundw
    case rel => exact ⟨i + 1, by omega, by go_num, by rw [hjI.out], by show World.ownsRow _ _ _ _ _ _ _; rw [← Nat.add_assoc]; exact hO4.out, hB4⟩
    case measure => simp [intOf]; omega
  · obtain rfl : i = r := by omega
    have e1 : ((min (245 + 255 * i) n : Nat) : Int) = (n : Int) := by omega
    rw [e1]
    have hOf : Hid (wr.ownsRow w.heap.size 9 1 u9 (blocks ep p).length ((blocks ep p).map Nm.txt)) := by
      have := hO.out
      rw [List.take_of_length_le (by rw [HRL.out]; exact Nat.le_refl _)] at this
      rw [HFB.out, List.length_cons, HRL.out, Nat.add_comm]
      exact this
    clear e1 hO
    by_cases hin : (i : Int) < (n : Int)
    · go_wp2
      go_ret
      exact ⟨_, rfl, hOf.out, hB.out⟩
    · go_wp2
      go_ret
      exact ⟨_, rfl, hOf.out, hB.out⟩
end Rc
end Go.Proofs.Ytjnodkjeiogloaa
