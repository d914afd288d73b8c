/- The document's Load. -/
import Derived.Test.YtlgjnefieflmbaaDoorAreS
namespace Go.Proofs.YtlgjnefieflmbaaDoor
set_option linter.ambiguousOpen false
open Go.RowKit
namespace Ae
open Sm Ft Dk Pk
set_option linter.unusedSimpArgs false
set_option linter.unusedVariables false

theorem cutA (l : List UInt8) (k : Nat) (h : k ≤ l.length) (w : World) : (Instr.slice 9 (.string (tx l)) none (some (.int .i64 (k : Int))) none).run Tryd.prog w = .ok (.string (tx (l.take k))) w := by
  have hs : (tx l).size = l.length := rfl
  have h1 : (0 : Int) ≤ (k : Int) ∧ (k : Int) ≤ ((tx l).size : Int) := by omega
  have e : (tx l).extract 0 k = tx (l.take k) := by
    apply ByteArray.ext
    simp [ByteArray.extract, ByteArray.copySlice, tx]
  simp [Instr.slice, Instr.sliceBounds, Instr.sliceBound, asIntOf, run_underlying Tryd.underlying9]
  rw [hs]
  simp only [h, if_true]
  rw [e]

/-- One block more. -/
theorem lie_step (d : Dsk) (b : Int) (size : Nat) (acc : List UInt8) (i : Nat) (h : acc.length < size) (hs : ¬ (rdT d (b + (i : Int))).length < min (size - acc.length) 256) (hl : (lie d (b + (i : Int)) (size - acc.length)).map (acc ++ ·) = lie d b size) :
    (lie d (b + ((i + 1 : Nat) : Int)) (size - (acc ++ (rdT d (b + (i : Int))).take (min (size - acc.length) 256)).length)).map ((acc ++ (rdT d (b + (i : Int))).take (min (size - acc.length) 256)) ++ ·) = lie d b size := by
  rw [← hl]
  rw [lie.eq_1 d (b + (i : Int)) (size - acc.length), dif_neg (by omega), if_neg hs]
  have e1 : (acc ++ (rdT d (b + (i : Int))).take (min (size - acc.length) 256)).length = acc.length + min (size - acc.length) 256 := by
    rw [List.length_append, List.length_take]
    omega
  rw [e1, show b + ((i + 1 : Nat) : Int) = b + (i : Int) + 1 by omega, show size - (acc.length + min (size - acc.length) 256) = size - acc.length - min (size - acc.length) 256 by omega]
  cases lie d (b + (i : Int) + 1) (size - acc.length - min (size - acc.length) 256) with
  | none => rfl
  | some r => simp

theorem lie_stop (d : Dsk) (b : Int) (size : Nat) (acc : List UInt8) (i : Nat) (h : acc.length < size) (hs : (rdT d (b + (i : Int))).length < min (size - acc.length) 256) (hl : (lie d (b + (i : Int)) (size - acc.length)).map (acc ++ ·) = lie d b size) : lie d b size = none := by
  rw [← hl, lie.eq_1 d (b + (i : Int)) (size - acc.length), dif_neg (by omega), if_pos hs]
  rfl

theorem lie_done (d : Dsk) (b : Int) (size : Nat) (acc : List UInt8) (i : Nat) (h : ¬ acc.length < size) (hl : (lie d (b + (i : Int)) (size - acc.length)).map (acc ++ ·) = lie d b size) : lie d b size = some acc := by
  rw [← hl, lie.eq_1 d (b + (i : Int)) (size - acc.length), dif_pos (by omega)]
  simp

/-- What lies answers. -/
def AnsL (A : Option (List UInt8)) (w : World) (e : Ending) (w' : World) : Prop := Below w.heap.size w w' ∧ ((A = none ∧ e = .returned (.tuple #[.slice none 0 0, .bool false])) ∨ ∃ x r, A = some x ∧ e = .returned (.tuple #[r, .bool true]) ∧ w'.ownsRow w.heap.size 5 1 r x.length (x.map by1))

set_option maxRecDepth 100000 in
set_option maxHeartbeats 4000000 in
theorem lies_ref (base : Nat) (w : World) (g : Nat) (F : Nat → Prop) (d : Dsk) (b : Int) (size : Nat) (hR : RepR base w g F d) (ht : d.tr.length ≤ 1000000000) (hb : 0 ≤ b ∧ b ≤ 4096) (hs : size ≤ 1048576) (hsm : ∀ i, (rdT d i).length ≤ 256) :
    Calls Tryd.prog 66 #[ptr g, nu b, nu (size : Int)] w (AnsL (lie d b size) w) := by
  have cR : Hid (∀ wx (i : Int), Below w.heap.size w wx → Calls Tryd.prog 64 #[ptr g, nu i] wx fun e w' => e = .returned (.tuple #[.string (tx (rdT d i)), nu (rdN d i)]) ∧ w' = wx) := fun wx i hb => rread base wx g F d i (hR.below hb) ht
  clear hR
  go_enter Tryd.func66, Tryd.ntmps66
  go_wp2
  go_loopw [8, 9, 10, 11, 12] (fun dv iv _ _ _ wr => ∃ (i : Nat) (m : Nat) (acc : List UInt8), i ≤ size + 1 ∧ m ≤ size ∧ iv = nu (i : Int) ∧ Hid (m < size → m = 256 * i) ∧ Hid (acc.length = m) ∧ Hid ((lie d (b + (i : Int)) (size - acc.length)).map (acc ++ ·) = lie d b size) ∧ Hid (wr.ownsRow w.heap.size 5 1 dv m (acc.map by1)) ∧ Hid (Below w.heap.size w wr)) (fun _ iv _ _ _ _ => size + 2 - (intOf iv).toNat)
  case atStart => exact ⟨0, 0, [], by omega, Nat.zero_le _, rfl, fun _ => rfl, rfl, by show _ = _; simp, World.ownsRow_nil _ _ _ _, Below.refl _ _⟩
  case round =>
    obtain ⟨i, m, acc, hi, hms, rfl, hm, hL, hE, hO, hB⟩ := hrel
    by_cases hlt : m < size
    · have hmi := hm.out hlt
      obtain ⟨k, hk⟩ : ∃ k : Nat, min (size - m) 256 = k := ⟨_, rfl⟩
      have hmin : ∀ wx, (Builtin.min_ #[3, 3] 3 #[.int .i64 ((size : Int) - (m : Int)), .int .i64 256]).run Tryd.prog wx = .ok (.int .i64 (k : Int)) wx := fun wx => by
        rw [min_twoA]
        congr 2
        split <;> omega
      have C := Hid.mk' (cR.out wr (b + (i : Int)) hB.out)
      obtain ⟨s, hse⟩ : ∃ s, rdT d (b + (i : Int)) = s := ⟨_, rfl⟩
      have hsl := hsm (b + (i : Int))
      rw [hse] at C hsl
      obtain ⟨z, hz⟩ : ∃ z : Int, ((rdN d (b + (i : Int)) : Nat) : Int) = z := ⟨_, rfl⟩
      rw [hz] at C
      have hts : (tx s).size = s.length := rfl
      obtain ⟨ad, cd, hdv, _⟩ := Nm.own_shape hO.out
      subst hdv
      have hiI : (i : Int) ≤ (size : Int) := by omega
      have hmI : (m : Int) < (size : Int) := by omega
      have hbi : b + (i : Int) ≤ 2000000 := by omega
      by_cases hsh : s.length < k
      · have hno := lie_stop d b size acc i (by rw [hL.out]; exact hlt) (by rw [hse, hL.out, hk]; exact hsh) hE.out
        have HNO := Hid.mk' hno
        clear hz hse hno hE hk hmi
        generalize tx s = f at *
        have hshI : (f.size : Int) < (k : Int) := by omega
        go_wp2_with fail
        refine C.out.mono ?_
        rintro e w' ⟨rfl, hw⟩
        subst w'
        go_wp2
        go_ret2
        exact ⟨hB.out, .inl ⟨HNO.out, rfl⟩⟩
      · have hgo := lie_step d b size acc i (by rw [hL.out]; exact hlt) (by rw [hse, hL.out, hk]; exact hsh) hE.out
        rw [hse, hL.out, hk] at hgo
        have HGO : Hid ((lie d (b + ((i + 1 : Nat) : Int)) (size - (acc ++ s.take k).length)).map ((acc ++ s.take k) ++ ·) = lie d b size) := hgo
        have hct := fun wx => cutA s k (by omega) wx
        have hlen2 : Hid ((acc ++ s.take k).length = m + k) := by
          show _ = _
          rw [List.length_append, List.length_take, hL.out]
          omega
        have htk : (s.take k).length = k := by rw [List.length_take]; omega
        have hmap : Hid ((acc ++ s.take k).map by1 = acc.map by1 ++ (s.take k).map by1) := by show _ = _; rw [List.map_append]
        have hbyt : Hid (m + (s.take k).length ≤ 140737488355328) := by show _ ≤ _; omega
        obtain ⟨f2, hf2⟩ : ∃ f2, f2 = tx (s.take k) := ⟨_, rfl⟩
        rw [← hf2] at hct
        have HF2 := Hid.mk' hf2
        have HTK := Hid.mk' htk
        have HSZ := Hid.mk' hB.out.size
        have hk1 : k ≤ 256 := by omega
        have hk2 : m + k ≤ size := by omega
        have HK3 : Hid (m + k < size → m + k = 256 * (i + 1)) := fun h => by omega
        have hgo' := hgo
        clear hz hse hgo hE hk hf2 htk hmi hgo'
        generalize tx s = f at *
        have hshI : ¬ (f.size : Int) < (k : Int) := by omega
        go_wp2_with fail
        refine C.out.mono ?_
        rintro e w' ⟨rfl, hw⟩
        subst w'
        go_wp2_with (at_builtin; refine wpList_append_text rfl _ _ rfl w.heap.size m _ f2 _ (s.take k) rfl rfl HF2.out hO.out hbyt.out HSZ.out ?_; intro v' w4 ho4 hg4 _; rw [HTK.out] at ho4; rw [← hmap.out] at ho4; have HO4 := Hid.mk' ho4; have HB4 : Hid (Below w.heap.size w w4) := Below.grown hB.out hg4 HSZ.out (fun j hj => (hO.out.lt j hj).1); clear ho4 hg4)
        go_roundw
        case rel => exact ⟨i + 1, m + k, acc ++ s.take k, by omega, hk2, by go_num, HK3, hlen2, HGO, HO4, HB4⟩
        case measure => simp [intOf]; omega
    · have hyes := lie_done d b size acc i (by rw [hL.out]; exact hlt) hE.out
      have HY := Hid.mk' hyes
      obtain ⟨ad, cd, hdv, _⟩ := Nm.own_shape hO.out
      subst hdv
      have hmI : ¬ (m : Int) < (size : Int) := by omega
      clear hyes hE
      go_wp2
      go_ret2
      exact ⟨hB.out, .inr ⟨acc, _, HY.out, rfl, by rw [hL.out]; exact hO.out⟩⟩

theorem num4_lt (s : List UInt8) (k : Nat) : num4 s k < 4294967296 := by
  have : ∀ (n : Nat) (l : List UInt8), l.length ≤ n → Sm.num l < 256 ^ n := by
    intro n
    induction n with
    | zero =>
      intro l h
      have e : l = [] := List.eq_nil_of_length_eq_zero (by omega)
      subst e
      decide
    | succ n ih =>
      intro l h
      cases l with
      | nil => exact Nat.pow_pos (by decide)
      | cons b l =>
        have h1 := ih l (by simp at h; omega)
        have h2 := byte_lt b
        rw [Sm.num, Nat.pow_succ]
        omega
  exact this 4 ((s.drop k).take 4) (by rw [List.length_take]; omega)

/-- What Load answers. -/
def AnsR (A : Nat × Nat × List UInt8) (w : World) (e : Ending) (w' : World) : Prop := ∃ r, e = .returned (.tuple #[.int .u32 (A.2.1 : Int), r, nu (A.1 : Int)]) ∧ w'.ownsRow w.heap.size 5 1 r A.2.2.length (A.2.2.map by1) ∧ Below w.heap.size w w'

theorem ansr_no {A : Nat × Nat × List UInt8} {w : World} {e : Ending} {w' : World} (c : Nat) (hA : A = (c, 0, [])) (he : e = .returned (.tuple #[.int .u32 0, .slice none 0 0, nu (c : Int)])) (hb : Below w.heap.size w w') : AnsR A w e w' := by
  subst hA
  exact ⟨_, he, World.ownsRow_nil _ _ _ _, hb⟩

theorem tx_list (a : List UInt8) : (tx a).toList = a := by
  rw [ByteArray.toList_eq]

set_option maxRecDepth 100000 in
set_option maxHeartbeats 4000000 in
theorem load_ref (base : Nat) (w : World) (g : Nat) (F : Nat → Prop) (d : Dsk) (a n : Int) (hR : RepR base w g F d) (hd : 1 ≤ d.n ∧ d.n ≤ 4096) (ht : d.tr.length ≤ 1000000000) (hsm : ∀ i, (rdT d i).length ≤ 256) :
    Calls Tryd.prog 39 #[ptr g, nu a, nu n] w (AnsR (load d a n) w) := by
  have c1 := Hid.mk' (may_ref w g d a n hR.num.1 hd)
  cases hm : may d a n with
  | false =>
    rw [hm] at c1
    have hA : Hid (load d a n = (1, 0, [])) := by
      show _ = _
      rw [load, if_neg (by rw [hm]; decide)]
    clear hR hm hsm
    go_enter Tryd.func39, Tryd.ntmps39
    go_wp2_with fail
    refine c1.out.mono ?_
    rintro e w' ⟨rfl, hw⟩
    subst w'
    go_wp2
    go_ret3
    exact ansr_no 1 hA.out rfl (Below.refl _ _)
  | true =>
    rw [hm] at c1
    obtain ⟨m1, m2, m3⟩ := may_out hm
    have c2 := Hid.mk' (rread base w g F d a hR ht)
    obtain ⟨s, hs⟩ : ∃ s, rdT d a = s := ⟨_, rfl⟩
    obtain ⟨z, hz⟩ : ∃ z : Int, ((rdN d a : Nat) : Int) = z := ⟨_, rfl⟩
    rw [hs, hz] at c2
    have hsl := hsm a
    rw [hs] at hsl
    have hL : load d a n = if s = [] then (10, 0, []) else if s.length ≠ 16 then (21, 0, []) else if n * 256 < (num4 s 4 : Int) then (21, 0, []) else told (num4 s 0) s (lie d (fst a n (num4 s 0)) (num4 s 4)) := by
      rw [load, if_pos hm, hs]
    have hsz : (tx s).size = s.length := rfl
    by_cases hnil : s = []
    · rw [if_pos hnil] at hL
      have HL := Hid.mk' hL
      rw [hnil] at c2
      clear hR hm hsm hL hs hz
      go_enter Tryd.func39, Tryd.ntmps39
      go_wp2_with fail
      refine c1.out.mono ?_
      rintro e w' ⟨rfl, hw⟩
      subst w'
      go_wp2_with fail
      refine c2.out.mono ?_
      rintro e w' ⟨rfl, hw⟩
      subst w'
      go_wp2
      go_ret3
      exact ansr_no 10 HL.out rfl (Below.refl _ _)
    rw [if_neg hnil] at hL
    have hne0 : (tx s).toList.isEmpty = false := by
      rw [tx_list]
      cases s with
      | nil => exact absurd rfl hnil
      | cons _ _ => rfl
    by_cases h16 : s.length ≠ 16
    · rw [if_pos h16] at hL
      have HL := Hid.mk' hL
      clear hR hm hsm hL hs hz
      generalize tx s = f at *
      have h16I : ((f.size : Int) == 16) = false := by simp; omega
      go_enter Tryd.func39, Tryd.ntmps39
      go_wp2_with fail
      refine c1.out.mono ?_
      rintro e w' ⟨rfl, hw⟩
      subst w'
      go_wp2_with fail
      refine c2.out.mono ?_
      rintro e w' ⟨rfl, hw⟩
      subst w'
      go_wp2
      go_ret3
      exact ansr_no 21 HL.out rfl (Below.refl _ _)
    rw [if_neg h16] at hL
    have h16' : s.length = 16 := by omega
    have c3 : Hid (∀ wx, Calls Tryd.prog 65 #[.string (tx s), nu 0] wx fun e w' => e = .returned (.int .u32 (num4 s 0 : Int)) ∧ Below wx.heap.size wx w') := fun wx => number_ref s 0 wx (by omega) (by omega)
    have c4 : Hid (∀ wx, Calls Tryd.prog 65 #[.string (tx s), nu 4] wx fun e w' => e = .returned (.int .u32 (num4 s 4 : Int)) ∧ Below wx.heap.size wx w') := fun wx => number_ref s 4 wx (by omega) (by omega)
    have hE := num4_lt s 0
    have hZ := num4_lt s 4
    obtain ⟨E, hEe⟩ : ∃ E, num4 s 0 = E := ⟨_, rfl⟩
    obtain ⟨Z, hZe⟩ : ∃ Z, num4 s 4 = Z := ⟨_, rfl⟩
    rw [hEe] at c3 hE hL
    rw [hZe] at c4 hZ hL
    have h16B : (((tx s).size : Int) == 16) = true := by rw [hsz, h16']; rfl
    by_cases hbig : n * 256 < (Z : Int)
    · rw [if_pos hbig] at hL
      have HL := Hid.mk' hL
      clear hR hm hsm hL hs hz h16 h16' hEe hZe
      generalize tx s = f at *
      go_enter Tryd.func39, Tryd.ntmps39
      go_wp2_with fail
      refine c1.out.mono ?_
      rintro e w' ⟨rfl, hw⟩
      subst w'
      go_wp2_with fail
      refine c2.out.mono ?_
      rintro e w' ⟨rfl, hw⟩
      subst w'
      go_wp2_with fail
      refine (c3.out _).mono ?_
      rintro e w1 ⟨rfl, hb1⟩
      go_wp2_with fail
      refine (c4.out _).mono ?_
      rintro e w2 ⟨rfl, hb2⟩
      have HB2 : Hid (Below w.heap.size w w2) := hb1.trans (hb2.mono hb1.size)
      clear hb1 hb2
      go_wp2
      go_ret3
      exact ansr_no 21 HL.out rfl HB2.out
    rw [if_neg hbig] at hL
    have c5 : Hid (∀ wx, Calls Tryd.prog 58 #[nu a, nu n, .int .u32 (E : Int)] wx fun e w' => e = .returned (nu (fst a n E)) ∧ w' = wx) := fun wx => first_ref a n E wx (by omega) (by omega) hE
    obtain ⟨f1, f2⟩ := fst_in a n E 0 m2 (by omega)
    obtain ⟨b, hb⟩ : ∃ b : Int, fst a n E = b := ⟨_, rfl⟩
    rw [hb] at c5 f1 f2 hL
    have c6 : Hid (∀ wx, Below w.heap.size w wx → Calls Tryd.prog 66 #[ptr g, nu b, nu (Z : Int)] wx (AnsL (lie d b Z) wx)) := fun wx hx => lies_ref base wx g F d b Z (hR.below hx) ht (by omega) (by omega) hsm
    have hZl : (Z : Int) ≤ 1048576 := by omega
    cases hli : lie d b Z with
    | none =>
      rw [hli] at hL c6
      rw [told] at hL
      have HL := Hid.mk' hL
      clear hR hm hsm hL hs hz h16 h16' hEe hZe hb hli
      generalize tx s = f at *
      go_enter Tryd.func39, Tryd.ntmps39
      go_wp2_with fail
      refine c1.out.mono ?_
      rintro e w' ⟨rfl, hw⟩
      subst w'
      go_wp2_with fail
      refine c2.out.mono ?_
      rintro e w' ⟨rfl, hw⟩
      subst w'
      go_wp2_with fail
      refine (c3.out _).mono ?_
      rintro e w1 ⟨rfl, hb1⟩
      go_wp2_with fail
      refine (c4.out _).mono ?_
      rintro e w2 ⟨rfl, hb2⟩
      have HB2 : Hid (Below w.heap.size w w2) := hb1.trans (hb2.mono hb1.size)
      clear hb1 hb2
      go_wp2_with fail
      refine (c5.out _).mono ?_
      rintro e w' ⟨rfl, hw⟩
      subst w'
      go_wp2_with fail
      refine (c6.out w2 HB2.out).mono ?_
      rintro e w3 ⟨hb3, hx⟩
      have he : e = .returned (.tuple #[.slice none 0 0, .bool false]) := by
        rcases hx with ⟨_, h⟩ | ⟨x, r, h, _⟩
        · exact h
        · cases h
      subst he
      have HB3 : Hid (Below w.heap.size w w3) := HB2.out.trans (hb3.mono HB2.out.size)
      clear hb3 hx
      go_wp2
      go_ret3
      exact ansr_no 21 HL.out rfl HB3.out
    | some x =>
      rw [hli] at hL c6
      rw [told] at hL
      have hxl := lie_len d Z b Z x (Nat.le_refl _) hli
      have c7 : Hid (∀ wx r, RdB wx r x → Calls Tryd.prog 59 #[.int .u32 (E : Int), r] wx fun e w' => e = .returned (.string (tx (hdr E x))) ∧ Below wx.heap.size wx w') := fun wx r h1 => header_ref E r x wx h1 hE (by omega)
      by_cases hq : hdr E x = s
      · rw [if_pos hq] at hL
        have HL := Hid.mk' hL
        rw [hq] at c7
        have hqq : ((tx s).toList == (tx s).toList) = true := by simp
        generalize tx s = f at *
        clear hR hm hsm hL hs hz h16 h16' hEe hZe hb hli hxl hq
        go_enter Tryd.func39, Tryd.ntmps39
        go_wp2_with fail
        refine c1.out.mono ?_
        rintro e w' ⟨rfl, hw⟩
        subst w'
        go_wp2_with fail
        refine c2.out.mono ?_
        rintro e w' ⟨rfl, hw⟩
        subst w'
        go_wp2_with fail
        refine (c3.out _).mono ?_
        rintro e w1 ⟨rfl, hb1⟩
        go_wp2_with fail
        refine (c4.out _).mono ?_
        rintro e w2 ⟨rfl, hb2⟩
        have HB2 : Hid (Below w.heap.size w w2) := hb1.trans (hb2.mono hb1.size)
        clear hb1 hb2
        go_wp2_with fail
        refine (c5.out _).mono ?_
        rintro e w' ⟨rfl, hw⟩
        subst w'
        go_wp2_with fail
        refine (c6.out w2 HB2.out).mono ?_
        rintro e w3 ⟨hb3, hx⟩
        obtain ⟨r, he, ho⟩ : ∃ r, e = .returned (.tuple #[r, .bool true]) ∧ w3.ownsRow w2.heap.size 5 1 r x.length (x.map by1) := by
          rcases hx with ⟨h, _⟩ | ⟨y, r, h, h2, h3⟩
          · cases h
          · cases h
            exact ⟨r, h2, h3⟩
        subst he
        have HB3 : Hid (Below w.heap.size w w3) := HB2.out.trans (hb3.mono HB2.out.size)
        have C7 := Hid.mk' (c7.out w3 r (own_rd ho))
        have HO3 := Hid.mk' ho
        obtain ⟨ar, kr, rfl, _⟩ := Nm.own_shape ho
        clear hb3 hx ho c7
        go_wp2_with fail
        refine C7.out.mono ?_
        rintro e w4 ⟨rfl, hb4⟩
        have HB4 : Hid (Below w.heap.size w w4) := HB3.out.trans (hb4.mono HB3.out.size)
        have HO4 : Hid (w4.ownsRow w.heap.size 5 1 (.slice ar x.length kr) x.length (x.map by1)) := (Keep.of_below (F := fun _ => False) hb4).own (own_mono HO3.out HB2.out.size) (fun _ _ h => h)
        clear hb4 C7
        go_wp2
        go_ret3
        rw [HL.out]
        exact ⟨_, rfl, HO4.out, HB4.out⟩
      · rw [if_neg hq] at hL
        have HL := Hid.mk' hL
        have hqq : ((tx (hdr E x)).toList == (tx s).toList) = false := by
          rw [tx_list, tx_list]
          simpa using hq
        generalize tx (hdr E x) = f2 at *
        generalize tx s = f at *
        clear hR hm hsm hL hs hz h16 h16' hEe hZe hb hli hxl hq
        go_enter Tryd.func39, Tryd.ntmps39
        go_wp2_with fail
        refine c1.out.mono ?_
        rintro e w' ⟨rfl, hw⟩
        subst w'
        go_wp2_with fail
        refine c2.out.mono ?_
        rintro e w' ⟨rfl, hw⟩
        subst w'
        go_wp2_with fail
        refine (c3.out _).mono ?_
        rintro e w1 ⟨rfl, hb1⟩
        go_wp2_with fail
        refine (c4.out _).mono ?_
        rintro e w2 ⟨rfl, hb2⟩
        have HB2 : Hid (Below w.heap.size w w2) := hb1.trans (hb2.mono hb1.size)
        clear hb1 hb2
        go_wp2_with fail
        refine (c5.out _).mono ?_
        rintro e w' ⟨rfl, hw⟩
        subst w'
        go_wp2_with fail
        refine (c6.out w2 HB2.out).mono ?_
        rintro e w3 ⟨hb3, hx⟩
        obtain ⟨r, he, ho⟩ : ∃ r, e = .returned (.tuple #[r, .bool true]) ∧ w3.ownsRow w2.heap.size 5 1 r x.length (x.map by1) := by
          rcases hx with ⟨h, _⟩ | ⟨y, r, h, h2, h3⟩
          · cases h
          · cases h
            exact ⟨r, h2, h3⟩
        subst he
        have HB3 : Hid (Below w.heap.size w w3) := HB2.out.trans (hb3.mono HB2.out.size)
        have C7 := Hid.mk' (c7.out w3 r (own_rd ho))
        have HO3 := Hid.mk' ho
        obtain ⟨ar, kr, rfl, _⟩ := Nm.own_shape ho
        clear hb3 hx ho c7
        go_wp2_with fail
        refine C7.out.mono ?_
        rintro e w4 ⟨rfl, hb4⟩
        have HB4 : Hid (Below w.heap.size w w4) := HB3.out.trans (hb4.mono HB3.out.size)
        have HO4 : Hid (w4.ownsRow w.heap.size 5 1 (.slice ar x.length kr) x.length (x.map by1)) := (Keep.of_below (F := fun _ => False) hb4).own (own_mono HO3.out HB2.out.size) (fun _ _ h => h)
        clear hb4 C7
        go_wp2
        go_ret3
        exact ansr_no 21 HL.out rfl HB4.out
end Ae
end Go.Proofs.YtlgjnefieflmbaaDoor
