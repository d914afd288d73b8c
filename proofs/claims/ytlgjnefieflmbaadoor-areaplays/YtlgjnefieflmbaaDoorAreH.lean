/- The program's area: an image's blocks are written; they are gathered. -/
import Derived.Test.YtlgjnefieflmbaaDoorAreG
namespace Go.Proofs.YtlgjnefieflmbaaDoor
set_option linter.ambiguousOpen false
open Go.RowKit
namespace Ae
open Sm Ft Dk Pk
set_option linter.unusedSimpArgs false
set_option linter.unusedVariables false

/-- What a call leaves of the disk. -/
def LeftP (Rep : World → Nat → (Nat → Prop) → Dsk → Prop) (w w' : World) (p : Nat) (F : Nat → Prop) (d : Dsk) : Prop := ∃ G, Rep w' p G d ∧ Keep F w w' ∧ Goes w F G

/-- At a round of the blocks' loop: y is left to be written. -/
structure Wy (Rep : World → Nat → (Nat → Prop) → Dsk → Prop) (w wr : World) (p : Nat) (F G : Nat → Prop) (d d' : Dsk) (b : Int) (x y : List UInt8) (i : Nat) : Prop where
  rep : Rep wr p G d'
  keep : Keep F w wr
  goes : Goes w F G
  ups : ups (b + (i : Int)) (pcs y) d' = ups b (pcs x) d
  n : d'.n = d.n
  tr : d'.tr.length ≤ d.tr.length + i

theorem take_min (y : List UInt8) : y.take (min y.length 256) = y.take 256 := by
  rcases Nat.le_total y.length 256 with h | h
  · rw [show min y.length 256 = y.length by omega, List.take_length, List.take_of_length_le h]
  · rw [show min y.length 256 = 256 by omega]

theorem drop_min (y : List UInt8) : y.drop (min y.length 256) = y.drop 256 := by
  rcases Nat.le_total y.length 256 with h | h
  · rw [show min y.length 256 = y.length by omega, List.drop_length, List.drop_of_length_le h]
  · rw [show min y.length 256 = 256 by omega]

set_option maxRecDepth 100000 in
set_option maxHeartbeats 4000000 in
theorem lay_p {Rep : World → Nat → (Nat → Prop) → Dsk → Prop} (H : Says Rep) (w : World) (p : Nat) (F : Nat → Prop) (d : Dsk) (b : Int) (v : Value) (x : List UInt8) (hR : Rep w p F d) (ht : d.tr.length + 5000 ≤ 1000000000) (hb : 0 ≤ b) (hbn : b + ((pcs x).length : Int) ≤ 4096) (hv : ∀ w', Keep F w w' → RdB w' v x) :
    Calls Tryd.prog 44 #[ptr p, nu b, v] w fun e w' => e = .returned (errE (ups b (pcs x) d).1) ∧ LeftP Rep w w' p F (ups b (pcs x) d).2 := by
  have HR := Hid.mk' hR
  obtain ⟨U, hU⟩ : ∃ U, ups b (pcs x) d = U := ⟨_, rfl⟩
  have HU := Hid.mk' hU
  rw [hU]
  obtain ⟨C, hC⟩ : ∃ C, (pcs x).length = C := ⟨_, rfl⟩
  have hCx : (x.length + 255) / 256 = C := by rw [← hC, pcs_count]
  rw [hC] at hbn
  obtain ⟨N, hN⟩ : ∃ N, x.length = N := ⟨_, rfl⟩
  have HN := Hid.mk' hN
  rw [hN] at hCx
  have HV := Hid.mk' hv
  obtain ⟨av, cv, hve, hc1, hc2, _⟩ := hv w (Keep.refl _ _)
  rw [hN] at hve hc1
  unfold maxLen at hc2
  subst hve
  have cW : Hid (∀ wx G d' i t, Rep wx p G d' → d'.tr.length ≤ 1000000000 → 0 ≤ i ∧ i ≤ 4096 → t.length ≤ 256 → Calls Tryd.prog 11 #[ptr p, nu i, .string (tx t)] wx fun e w' => e = .returned (errE (wrN d' i t)) ∧ ∃ G', Rep w' p G' (wrD d' i t) ∧ Keep G wx w' ∧ Goes wx G G') := fun wx G d' i t h1 h2 h3 h4 => H.write wx p G d' i t h1 h2 (by omega) (by unfold maxLen; omega)
  clear hR hv hC hU H
  go_enter Tryd.func44, Tryd.ntmps44
  go_wp2
  go_loopw [1, 2, 7, 8] (fun bv dv _ _ wr => ∃ (i M cp : Nat) (aa : Option Addr) (y : List UInt8), i ≤ C ∧ M ≤ cp ∧ cp ≤ 9223372036854775807 ∧ bv = nu (b + (i : Int)) ∧ dv = .slice aa M cp ∧ Hid (y.length = M) ∧ Hid ((M + 255) / 256 + i = C) ∧ Hid (∀ w', Keep F w w' → RdB w' (.slice aa M cp) y) ∧ Hid (∃ G d', Wy Rep w wr p F G d d' b x y i)) (fun bv _ _ _ _ => (b + (C : Int) + 1 - intOf bv).toNat)
  case atStart => exact ⟨0, N, cv, av, x, by omega, hc1, by omega, by simp, rfl, HN.out, by show _ = _; omega, HV.out, F, d, HR.out, Keep.refl _ _, Goes.refl _ _, by simp, rfl, Nat.le_refl _⟩
  case round =>
    obtain ⟨i, M, cp, aa, y, hi, hm1, hm2, rfl, rfl, hy, hci, hrd, hrr⟩ := hrel
    obtain ⟨G, d', hw⟩ := hrr.out
    by_cases hpos : 0 < M
    · have hiC : i < C := by have := hci.out; omega
      have hyn : y ≠ [] := fun e => by have := hy.out; rw [e] at this; simp at this; omega
      obtain ⟨k, hk⟩ : ∃ k : Nat, min M 256 = k := ⟨_, rfl⟩
      have hmin : ∀ wx, (Builtin.min_ #[3, 3] 3 #[.int .i64 (M : Int), .int .i64 256]).run Tryd.prog wx = .ok (.int .i64 (k : Int)) wx := fun wx => by
        rw [min_twoA]
        congr 2
        split <;> omega
      have hsl := fun wx => slice_to aa M cp k (by omega) wx
      have hsf := fun wx => slice_from aa M cp k (by omega) hm1 wx
      obtain ⟨t, hte⟩ : ∃ t, y.take k = t := ⟨_, rfl⟩
      have hte2 : y.take 256 = t := by rw [← hte, ← hk, ← hy.out, take_min]
      have hde2 : y.drop k = y.drop 256 := by rw [← hk, ← hy.out, drop_min]
      have htl : t.length ≤ 256 := by rw [← hte2, List.length_take]; omega
      have hrw := hrd.out wr hw.keep
      have hry : RdB wr (.slice aa y.length cp) y := by rw [hy.out]; exact hrw
      have hcv := conv_rd (hry.take k (by rw [hy.out]; omega))
      rw [hte] at hcv
      have hrd2 : Hid (∀ w', Keep F w w' → RdB w' (.slice (further aa cp k) (M - k) (cp - k)) (y.drop 256)) := fun w' hk' => by
        have h1 : RdB w' (.slice aa y.length cp) y := by rw [hy.out]; exact hrd.out w' hk'
        have h2 := h1.drop k (by rw [hy.out]; omega)
        rw [hy.out, hde2] at h2
        exact h2
      have hy2 : Hid ((y.drop 256).length = M - k) := by
        show _ = _
        rw [List.length_drop, hy.out]
        omega
      have hci2 : Hid ((M - k + 255) / 256 + (i + 1) = C) := by
        show _ = _
        have := hci.out
        omega
      have hst : U = if wrN d' (b + (i : Int)) t = 0 then ups (b + ((i + 1 : Nat) : Int)) (pcs (y.drop 256)) (wrD d' (b + (i : Int)) t) else (wrN d' (b + (i : Int)) t, d') := by
        rw [← HU.out, ← hw.ups, pcs_cons y hyn, hte2, Ae.ups, show b + ((i + 1 : Nat) : Int) = b + (i : Int) + 1 by omega]
      have C1 := Hid.mk' (cW.out wr G d' (b + (i : Int)) t hw.rep (by have := hw.tr; omega) (by omega) htl)
      have HWU := Hid.mk' hw
      have HST := Hid.mk' hst
      have hbi : 0 ≤ b + (i : Int) ∧ b + (i : Int) ≤ 4096 := by omega
      have hMI : (0 : Int) < (M : Int) := by omega
      obtain ⟨a2, ha2⟩ : ∃ a2, further aa cp k = a2 := ⟨_, rfl⟩
      obtain ⟨M2, hM2⟩ : ∃ M2, M - k = M2 := ⟨_, rfl⟩
      obtain ⟨c2, hc2e⟩ : ∃ c2, cp - k = c2 := ⟨_, rfl⟩
      rw [ha2, hM2, hc2e] at hsf
      rw [ha2, hM2, hc2e] at hrd2
      rw [hM2] at hy2 hci2
      have hm3 : M2 ≤ c2 := by omega
      have hm4 : c2 ≤ 9223372036854775807 := by omega
      clear hrr hw hrw hry hte hte2 hde2 hst ha2 hM2 hc2e hk
      generalize tx t = f at *
      by_cases h0 : wrN d' (b + (i : Int)) t = 0
      · rw [h0, show errE 0 = .nilIface from rfl] at C1
        rw [if_pos h0] at HST
        go_wp2_with fail
        refine C1.out.mono ?_
        rintro e w5 ⟨rfl, G', r1, r2, r3⟩
        have HN5 : Hid (∃ G d', Wy Rep w w5 p F G d d' b x (y.drop 256) (i + 1)) := ⟨G', _, r1, keep_goes HWU.out.keep HWU.out.goes r2, goes_trans HWU.out.goes r3 HWU.out.keep.size, HST.out.symm.trans HU.out.symm, (wrD_n _ _ _).trans HWU.out.n, by have := wrD_tr d' (b + (i : Int)) t; have := HWU.out.tr; omega⟩
        clear r1 r2 r3 C1 hcv hsl hmin
        go_wp2
        go_roundw
        case rel => exact ⟨i + 1, M2, c2, a2, y.drop 256, by omega, hm3, hm4, by go_num, rfl, hy2, hci2, hrd2, HN5⟩
        case measure => simp [intOf]; omega
      · rw [if_neg h0] at HST
        obtain ⟨c, hc⟩ : ∃ c : Nat, wrN d' (b + (i : Int)) t = c := ⟨_, rfl⟩
        rw [hc] at C1 HST h0
        obtain ⟨c', rfl⟩ : ∃ c', c = c' + 1 := ⟨c - 1, by omega⟩
        rw [show errE (c' + 1) = noE ((c' + 1 : Nat) : Int) from rfl] at C1
        have hDD : wrD d' (b + (i : Int)) t = d' := by
          unfold wrD
          rw [hc, if_neg h0]
        rw [hDD] at C1
        obtain ⟨z, hz⟩ : ∃ z : Int, ((c' + 1 : Nat) : Int) = z := ⟨_, rfl⟩
        have HZ := Hid.mk' hz
        rw [hz] at C1
        clear hDD hc hz
        go_wp2_with fail
        refine C1.out.mono ?_
        rintro e w5 ⟨rfl, G', r1, r2, r3⟩
        have HL : Hid (LeftP Rep w w5 p F d') := ⟨G', r1, keep_goes HWU.out.keep HWU.out.goes r2, goes_trans HWU.out.goes r3 HWU.out.keep.size⟩
        clear r1 r2 r3 C1 hcv hsl hmin hsf
        go_wp2
        go_ret
        rw [HST.out]
        exact ⟨by rw [← HZ.out]; rfl, HL.out⟩
    · obtain rfl : M = 0 := by omega
      have hy0 : y = [] := List.eq_nil_of_length_eq_zero hy.out
      have hu : U = (0, d') := by
        rw [← HU.out, ← hw.ups, hy0, pcs_nil, Ae.ups]
      have HL : Hid (LeftP Rep w wr p F d') := ⟨G, hw.rep, hw.keep, hw.goes⟩
      have HUU := Hid.mk' hu
      clear hrr hw hu hrd
      go_wp2
      go_ret
      rw [HUU.out]
      exact ⟨rfl, HL.out⟩

/-- What gather answers. -/
def AnsG (A : Option (List UInt8)) (size : Nat) (w : World) (e : Ending) (w' : World) : Prop := ∃ x r, e = .returned (.tuple #[r, .nilIface]) ∧ w'.ownsRow w.heap.size 5 1 r x.length (x.map by1) ∧ Below w.heap.size w w' ∧ (A = some x ∨ A = none ∧ x.length < size)

set_option maxRecDepth 100000 in
set_option maxHeartbeats 4000000 in
theorem gather_p {Rep : World → Nat → (Nat → Prop) → Dsk → Prop} (H : Says Rep) (w : World) (p : Nat) (F : Nat → Prop) (d : Dsk) (b : Int) (size : Nat) (hR : Rep w p F d) (ht : d.tr.length ≤ 1000000000) (hd : d.n ≤ 4096) (hb : 0 ≤ b) (hbs : b * 256 + (size : Int) ≤ d.n * 256) (hsm : Small d) :
    Calls Tryd.prog 63 #[ptr p, nu b, nu (size : Int)] w (AnsG (lie d b size) size w) := by
  have cR : Hid (∀ wx (i : Int), Below w.heap.size w wx → 0 ≤ i ∧ i < d.n → Calls Tryd.prog 61 #[ptr p, nu i] wx fun e w' => e = .returned (.tuple #[.string (tx (rdT d i)), .nilIface]) ∧ Below wx.heap.size wx w') := fun wx i hb hi => by
    have := H.read wx p F d i (H.keep hR (Keep.of_below (F := fun _ => False) hb) (fun _ _ h => h)) ht (by omega)
    rw [show rdN d i = 0 by unfold rdN; rw [if_pos hi]] at this
    exact this
  have HSM := Hid.mk' hsm
  obtain ⟨o, hmk, hmo⟩ := make_b size (by omega) w
  have HMO := Hid.mk' hmo
  have HMB : Hid (Below w.heap.size w (w.alloc o)) := (Below.refl _ _).alloc (Nat.le_refl _) _
  clear hR H hsm hmo
  go_enter Tryd.func63, Tryd.ntmps63
  go_wp2
  go_loopw [1, 8, 9, 10, 11] (fun bv dv _ _ _ wr => ∃ (i : Nat) (m : Nat) (acc : List UInt8), i ≤ size + 1 ∧ m ≤ size ∧ bv = nu (b + (i : Int)) ∧ Hid (m < size → m = 256 * i) ∧ Hid (acc.length = m) ∧ Hid ((lie d (b + (i : Int)) (size - acc.length)).map (acc ++ ·) = lie d b size) ∧ Hid (wr.ownsRow w.heap.size 5 1 dv m (acc.map by1)) ∧ Hid (Below w.heap.size w wr)) (fun bv _ _ _ _ _ => (b + (size : Int) + 2 - intOf bv).toNat)
  case atStart => exact ⟨0, 0, [], by omega, Nat.zero_le _, by simp, fun _ => rfl, rfl, by show _ = _; simp, HMO.out, HMB.out⟩
  case round =>
    obtain ⟨i, m, acc, hi, hms, rfl, hm, hL, hE, hO, hB⟩ := hrel
    by_cases hlt : m < size
    · have hmi := hm.out hlt
      obtain ⟨k, hk⟩ : ∃ k : Nat, min (size - m) 256 = k := ⟨_, rfl⟩
      have hmin : ∀ wx, (Builtin.min_ #[3, 3] 3 #[.int .i64 ((size : Int) - (m : Int)), .int .i64 256]).run Tryd.prog wx = .ok (.int .i64 (k : Int)) wx := fun wx => by
        rw [min_twoA]
        congr 2
        split <;> omega
      have C := Hid.mk' (cR.out wr (b + (i : Int)) hB.out (by omega))
      obtain ⟨s, hse⟩ : ∃ s, rdT d (b + (i : Int)) = s := ⟨_, rfl⟩
      have hsl := HSM.out.read (b + (i : Int))
      rw [hse] at C hsl
      have hts : (tx s).size = s.length := rfl
      obtain ⟨ad, cd, hdv, _⟩ := Nm.own_shape hO.out
      subst hdv
      have hmI : (m : Int) < (size : Int) := by omega
      have hsz : (size : Int) ≤ 1048576 := by omega
      have hbi : 0 ≤ b + (i : Int) ∧ b + (i : Int) ≤ 4096 := by omega
      have hOx : Hid (∀ wx, Below wr.heap.size wr wx → wx.ownsRow w.heap.size 5 1 (.slice ad m cd) m (acc.map by1)) := fun wx hx => (Keep.of_below (F := fun _ => False) hx).own hO.out (fun _ _ h => h)
      by_cases hsh : s.length < k
      · have hno := lie_stop d b size acc i (by rw [hL.out]; exact hlt) (by rw [hse, hL.out, hk]; exact hsh) hE.out
        have HNO := Hid.mk' hno
        have hbyt : Hid (m + s.length ≤ 140737488355328) := by show _ ≤ _; omega
        have hmap : Hid ((acc ++ s).map by1 = acc.map by1 ++ s.map by1) := by show _ = _; rw [List.map_append]
        have hlen : Hid ((acc ++ s).length = m + s.length) := by show _ = _; rw [List.length_append, hL.out]
        have hsm2 : Hid (m + s.length < size) := by show _ < _; omega
        obtain ⟨f, hf⟩ : ∃ f, f = tx s := ⟨_, rfl⟩
        rw [← hf] at C hts
        have HF := Hid.mk' hf
        clear hse hno hE hk hmi hf
        have hshI : (f.size : Int) < (k : Int) := by omega
        go_wp2_with fail
        refine C.out.mono ?_
        rintro e w5 ⟨rfl, hb5⟩
        have HO5 := Hid.mk' (hOx.out w5 hb5)
        have HB5 : Hid (Below w.heap.size w w5) := hB.out.trans (hb5.mono hB.out.size)
        have HSZ := Hid.mk' HB5.out.size
        clear hb5 C
        go_wp2_with (at_builtin; refine wpList_append_text rfl _ _ rfl w.heap.size m _ f _ s rfl rfl HF.out HO5.out hbyt.out HSZ.out ?_; intro v' w4 ho4 hg4 _; rw [← hmap.out] at ho4; have HO4 := Hid.mk' ho4; have HB4 : Hid (Below w.heap.size w w4) := Below.grown HB5.out hg4 HSZ.out (fun j hj => (HO5.out.lt j hj).1); clear ho4 hg4)
        go_ret2
        exact ⟨acc ++ s, _, rfl, by rw [hlen.out]; exact HO4.out, HB4.out, .inr ⟨HNO.out, by rw [hlen.out]; exact hsm2.out⟩⟩
      · have hgo := lie_step d b size acc i (by rw [hL.out]; exact hlt) (by rw [hse, hL.out, hk]; exact hsh) hE.out
        rw [hse, hL.out, hk] at hgo
        have HGO : Hid ((lie d (b + ((i + 1 : Nat) : Int)) (size - (acc ++ s.take k).length)).map ((acc ++ s.take k) ++ ·) = lie d b size) := hgo
        have hct := fun wx => cutA s k (by omega) wx
        have hlen2 : Hid ((acc ++ s.take k).length = m + k) := by
          show _ = _
          rw [List.length_append, List.length_take, hL.out]
          omega
        have htk : (s.take k).length = k := by rw [List.length_take]; omega
        have hmap : Hid ((acc ++ s.take k).map by1 = acc.map by1 ++ (s.take k).map by1) := by show _ = _; rw [List.map_append]
        have hbyt : Hid (m + (s.take k).length ≤ 140737488355328) := by show _ ≤ _; omega
        obtain ⟨f2, hf2⟩ : ∃ f2, f2 = tx (s.take k) := ⟨_, rfl⟩
        rw [← hf2] at hct
        have HF2 := Hid.mk' hf2
        have HTK := Hid.mk' htk
        have hk2 : m + k ≤ size := by omega
        have HK3 : Hid (m + k < size → m + k = 256 * (i + 1)) := fun h => by omega
        have hi2 : i + 1 ≤ size + 1 := by omega
        clear hse hgo hE hk hf2 htk hmi
        generalize tx s = f at *
        have hshI : ¬ (f.size : Int) < (k : Int) := by omega
        go_wp2_with fail
        refine C.out.mono ?_
        rintro e w5 ⟨rfl, hb5⟩
        have HO5 := Hid.mk' (hOx.out w5 hb5)
        have HB5 : Hid (Below w.heap.size w w5) := hB.out.trans (hb5.mono hB.out.size)
        have HSZ := Hid.mk' HB5.out.size
        clear hb5 C
        go_wp2_with (at_builtin; refine wpList_append_text rfl _ _ rfl w.heap.size m _ f2 _ (s.take k) rfl rfl HF2.out HO5.out hbyt.out HSZ.out ?_; intro v' w4 ho4 hg4 _; rw [HTK.out] at ho4; rw [← hmap.out] at ho4; have HO4 := Hid.mk' ho4; have HB4 : Hid (Below w.heap.size w w4) := Below.grown HB5.out hg4 HSZ.out (fun j hj => (HO5.out.lt j hj).1); clear ho4 hg4)
        go_roundw
        case rel => exact ⟨i + 1, m + k, acc ++ s.take k, hi2, hk2, by go_num, HK3, hlen2, HGO, HO4, HB4⟩
        case measure => simp [intOf]; omega
    · have hyes := lie_done d b size acc i (by rw [hL.out]; exact hlt) hE.out
      have HY := Hid.mk' hyes
      obtain ⟨ad, cd, hdv, _⟩ := Nm.own_shape hO.out
      subst hdv
      have hmI : ¬ (m : Int) < (size : Int) := by omega
      clear hyes hE
      go_wp2
      go_ret2
      exact ⟨acc, _, rfl, by rw [hL.out]; exact hO.out, hB.out, .inl HY.out⟩
end Ae
end Go.Proofs.YtlgjnefieflmbaaDoor
