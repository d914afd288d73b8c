import Derived.Test.YthdibodmnpcekaaGreatDoorPrgR
import Derived.Test.YthdibodmnpcekaaGreatDoorBegR
import Derived.Deep.RegionHeld3
/- The program's record: what a first block says. -/
namespace Go.Proofs.YthdibodmnpcekaaGreatDoor
set_option linter.ambiguousOpen false
open Go.RowKit
namespace Rc
namespace Pr
open Sm Pk
set_option linter.unusedSimpArgs false
set_option linter.unusedVariables false

theorem or_two (a b : Nat) (ha : a < 256) (hb : b < 256) : bits .or .i64 (a : Int) ((b : Int) * 256) = ((a + 256 * b : Nat) : Int) := by
  have e : ∀ n : Nat, n < 18446744073709551616 → (BitVec.ofInt 64 (n : Int)).toNat = n := fun n hn => by
    rw [BitVec.ofInt_natCast, BitVec.toNat_ofNat]
    exact Nat.mod_eq_of_lt (by omega)
  have h1 : ((b : Int) * 256) = ((b * 2 ^ 8 : Nat) : Int) := by
    rw [show (2 : Nat) ^ 8 = 256 from rfl]
    omega
  have h2 := or_part a b 8 (by omega)
  rw [h1]
  show IntKind.i64.wrap ((BitVec.ofInt 64 (a : Int) ||| BitVec.ofInt 64 ((b * 2 ^ 8 : Nat) : Int)).toNat : Int) = _
  rw [BitVec.toNat_or, e a (by omega), e (b * 2 ^ 8) (by omega), h2]
  rw [show (2 : Nat) ^ 8 = 256 from rfl]
  have h3 : a + b * 256 = a + 256 * b := by omega
  rw [h3]
  exact (wrapS _ (by omega)).1

theorem tx_list (l : List UInt8) : (tx l).toList = l := by
  simp [tx, ByteArray.toList_eq]

set_option maxRecDepth 100000 in
theorem opened_short (ep : Nat) (b : List UInt8) (w : World) (h : b.length < 11) :
    Calls Tryz.prog 62 #[.int .u32 (ep : Int), .string (tx b)] w fun e w' => e = .returned (.tuple #[nu 0, .string ⟨#[]⟩, .bool false]) ∧ w' = w := by
  have hs : (tx b).size = b.length := rfl
  obtain ⟨f, hf⟩ : ∃ f, tx b = f := ⟨_, rfl⟩
  rw [hf] at hs ⊢
  have hI : (f.size : Int) < 11 := by omega
  clear hf hs
  go_enter Tryz.func62, Tryz.ntmps62
  go_wp2
  go_ret3
  exact ⟨rfl, rfl⟩

set_option maxRecDepth 100000 in
set_option maxHeartbeats 2000000 in
theorem opened_p (ep : Nat) (b : List UInt8) (w : World) (hep : ep < 4294967296) (h : 11 ≤ b.length) (hl : b.length ≤ 9223372036854775807) :
    Calls Tryz.prog 62 #[.int .u32 (ep : Int), .string (tx b)] w fun e w' => e = .returned (.tuple #[nu (sizeB b : Int), .string (tx (b.drop 11)), .bool (decide (opensP ep b))]) ∧ Below w.heap.size w w' := by
  have i5 : ∀ wx, (Instr.index 9 (.string (tx b)) (.int .i64 5)).run Tryz.prog wx = .ok (.int .u8 ((byI b 5).toNat : Int)) wx := fun wx => idx_at b 5 (by omega) wx
  have i6 : ∀ wx, (Instr.index 9 (.string (tx b)) (.int .i64 6)).run Tryz.prog wx = .ok (.int .u8 ((byI b 6).toNat : Int)) wx := fun wx => idx_at b 6 (by omega) wx
  have hor := or_two (byI b 5).toNat (byI b 6).toNat (byI b 5).toNat_lt (byI b 6).toNat_lt
  have hz : (byI b 5).toNat + 256 * (byI b 6).toNat = sizeB b := rfl
  have hsl : (tx b).extract 11 (tx b).size = tx (b.drop 11) := tx_drop b 11
  have hs7 : (tx b).extract 0 7 = tx (b.take 7) := tx_take b 7
  obtain ⟨z, hzz⟩ : ∃ z, sizeB b = z := ⟨_, rfl⟩
  rw [hz, hzz] at hor
  have l5 := (byI b 5).toNat_lt
  have l6 := (byI b 6).toNat_lt
  have hzl : z < 65536 := by omega
  generalize (byI b 5).toNat = c5 at *
  generalize (byI b 6).toNat = c6 at *
  have hs : (tx b).size = b.length := rfl
  have hs2 : (tx (b.drop 11)).size = b.length - 11 := by
    show (b.drop 11).length = _
    rw [List.length_drop]
  obtain ⟨F7, hF7⟩ : ∃ f, tx (b.take 7) = f := ⟨_, rfl⟩
  obtain ⟨F8, hF8⟩ : ∃ f, tx (headB ep z) = f := ⟨_, rfl⟩
  have heq : (F7.toList == F8.toList) = decide (b.take 7 = headB ep z) := by
    rw [← hF7, ← hF8, tx_list, tx_list]
    by_cases hq : b.take 7 = headB ep z
    · rw [hq, decide_eq_true rfl, beq_self_eq_true]
    · rw [decide_eq_false hq, beq_eq_false_iff_ne]
      exact hq
  have cS : Hid (∀ wx, Calls Tryz.prog 73 #[.int .u32 (ep : Int), .int .i64 (z : Int)] wx fun e w' => ∃ a c, e = .returned (.slice a 7 c) ∧ (convert 46 9 (.slice a 7 c)).run Tryz.prog w' = .ok (.string F8) w' ∧ Below wx.heap.size wx w') := fun wx => by
    refine (summed_p ep z wx hep (by omega)).mono ?_
    rintro e w' ⟨x, rfl, ho, hb⟩
    have hrd := own_rd' ho (headB_len _ _)
    obtain ⟨a, c, rfl, _⟩ := Nm.own_shape ho
    have := conv_rd hrd
    rw [hF8] at this
    exact ⟨a, c, rfl, this, hb⟩
  obtain ⟨d, hd⟩ : ∃ d, decide (opensP ep b) = d := ⟨_, rfl⟩
  have hiff : opensP ep b ↔ z ≤ 512 ∧ b.length = 11 + min z 245 ∧ b.take 7 = headB ep z := by
    unfold opensP
    rw [hzz]
    exact ⟨fun q => q.2, fun q => ⟨h, q⟩⟩
  rw [hzz, hd]
  obtain ⟨nb, hnb⟩ : ∃ n, b.length = n := ⟨_, rfl⟩
  rw [hnb] at hs hs2 h hl hiff
  obtain ⟨m, hm⟩ : ∃ m, min z 245 = m := ⟨_, rfl⟩
  have hmin : ∀ wx, (Builtin.min_ #[3, 3] 3 #[.int .i64 (z : Int), .int .i64 245]).run Tryz.prog wx = .ok (.int .i64 (m : Int)) wx := fun wx => by
    rw [min_two, ← hm]
    congr 2
    split <;> omega
  rw [hm] at hiff
  obtain ⟨f, hf⟩ : ∃ f, tx b = f := ⟨_, rfl⟩
  obtain ⟨f2, hf2⟩ : ∃ f, tx (b.drop 11) = f := ⟨_, rfl⟩
  simp only [hf, hf2, hF7] at hs hs2 i5 i6 hsl hs7 ⊢
  have hI : ¬ (f.size : Int) < 11 := by omega
  have hf2l : (f2.size : Int) ≤ 9223372036854775807 := by omega
  have hI7 : (7 : Int) ≤ (f.size : Int) := by omega
  have HD := Hid.mk' hd
  have HIF := Hid.mk' hiff
  clear hz hd hiff hf hf2 hF7 hF8 hm hzz hnb
  by_cases q1 : z ≤ 512
  · have q1B : decide ((z : Int) ≤ 512) = true := decide_eq_true (by omega)
    by_cases q2 : nb = 11 + m
    · have q2B : ((f2.size : Int) == (m : Int)) = true := beq_iff_eq.2 (by omega)
      have hdd : Hid (decide (b.take 7 = headB ep z) = d) := by
        show _ = _
        rw [← HD.out]
        by_cases q3 : b.take 7 = headB ep z
        · rw [decide_eq_true q3, decide_eq_true (HIF.out.2 ⟨q1, q2, q3⟩)]
        · rw [decide_eq_false q3, decide_eq_false (fun q => q3 (HIF.out.1 q).2.2)]
      rw [hdd.out] at heq
      clear q1 q2 hs hs2
      go_enter Tryz.func62, Tryz.ntmps62
      go_upto_region 3 with fail
      go_quiet (fail)
      have hq0 := below_dn (Below.refl w.heap.size w) nq
      have hqs : (w.drewN nq).heap.size = w.heap.size := rfl
      generalize w.drewN nq = w1 at *
      have HQ0 := Hid.mk' hq0
      have cS2 : Hid (∀ wx, Below w1.heap.size w1 wx → Calls Tryz.prog 73 #[.int .u32 (ep : Int), .int .i64 (z : Int)] wx fun e w' => ∃ a c, e = .returned (.slice a 7 c) ∧ (convert 46 9 (.slice a 7 c)).run Tryz.prog w' = .ok (.string F8) w' ∧ Below w1.heap.size w1 w') := fun wx hx => by
        refine (cS.out wx).mono ?_
        rintro e w' ⟨a, c, rfl, h1, h2⟩
        exact ⟨a, c, rfl, h1, hx.trans (h2.mono hx.size)⟩
      clear hq0 cS
      go_wp2_with fail
      go_region_with (first | (go_at_call 73; with_reducible refine (cS2.out _ ?hb).mono ?_; (case hb => (first | exact Below.refl _ _ | exact (Below.refl _ _).drew | fail)); rintro e w5 ⟨a, c, rfl, hcv, hb6⟩) | fail)
      have HB6 := Hid.mk' hb6
      clear hb6 hcv
      go_wp2
      go_ret3
      exact ⟨rfl, HQ0.out.trans (HB6.out.mono (by rw [hqs]; exact Nat.le_refl _))⟩
    · have q2B : ((f2.size : Int) == (m : Int)) = false := beq_eq_false_iff_ne.2 (by omega)
      have hdd : d = false := by
        rw [← HD.out]
        exact decide_eq_false (fun q => q2 (HIF.out.1 q).2.1)
      subst hdd
      clear q1 q2 hs hs2
      go_enter Tryz.func62, Tryz.ntmps62
      go_upto_region 3 with fail
      go_quiet (fail)
      go_upto_region 5 with fail
      go_quiet (fail)
      go_wp2
      go_ret3
      exact ⟨rfl, below_dn (Below.refl _ _) _⟩
  · have q1B : decide ((z : Int) ≤ 512) = false := decide_eq_false (by omega)
    have hdd : d = false := by
      rw [← HD.out]
      exact decide_eq_false (fun q => q1 (HIF.out.1 q).1)
    subst hdd
    clear q1 hs hs2
    go_enter Tryz.func62, Tryz.ntmps62
    go_upto_region 3 with fail
    go_quiet (fail)
    go_upto_region 5 with fail
    go_quiet (fail)
    go_wp2
    go_ret3
    exact ⟨rfl, below_dn (Below.refl _ _) _⟩
end Pr
end Rc
end Go.Proofs.YthdibodmnpcekaaGreatDoor
