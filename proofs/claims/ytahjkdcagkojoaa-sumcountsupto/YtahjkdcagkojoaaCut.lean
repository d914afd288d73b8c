/- SumCut: cut anywhere the sum is the same; with its own sum behind it is always one number. -/
import Derived.Test.YtahjkdcagkojoaaSeen
namespace Go.Proofs.Ytahjkdcagkojoaa
set_option linter.ambiguousOpen false
open Go.RowKit
namespace Sm
set_option linter.unusedSimpArgs false
set_option linter.unusedVariables false

theorem slice_to (a : Option Addr) (len cap k : Nat) (h : k ≤ cap) (w : World) : (Instr.slice 22 (.slice a len cap) none (some (.int .i64 (k : Int))) none).run Try.prog w = .ok (.slice a k cap) w := by
  have h1 : (0 : Int) ≤ (k : Int) ∧ (k : Int) ≤ (cap : Int) := by omega
  have hu := Try.underlying22
  cases a with
  | none =>
    simp [Instr.slice, Instr.sliceBounds, Instr.sliceBound, asIntOf, run_underlying hu]
    intro hh; omega
  | some ad =>
    simp [Instr.slice, Instr.sliceBounds, Instr.sliceBound, asIntOf, run_underlying hu, Addr.add]
    intro hh; omega

/-- Where a slice lies that begins k further on. -/
def further (a : Option Addr) (cap k : Nat) : Option Addr :=
  match a with
  | none => none
  | some ad => if cap = k then some ad else some (if k = 0 then ad else { block := ad.block, off := ad.off + k })

theorem slice_from (a : Option Addr) (len cap k : Nat) (h : k ≤ len) (hc : len ≤ cap) (w : World) : (Instr.slice 22 (.slice a len cap) (some (.int .i64 (k : Int))) none none).run Try.prog w = .ok (.slice (further a cap k) (len - k) (cap - k)) w := by
  have h1 : (0 : Int) ≤ (k : Int) ∧ (k : Int) ≤ (cap : Int) := by omega
  have hu := Try.underlying22
  cases a with
  | none =>
    simp [Instr.slice, Instr.sliceBounds, Instr.sliceBound, asIntOf, run_underlying hu, further]
    intro hh; omega
  | some ad =>
    simp [Instr.slice, Instr.sliceBounds, Instr.sliceBound, asIntOf, run_underlying hu, Addr.add, further]
    intro hh; omega

theorem RdB.take {w : World} {a : Option Addr} {l : List UInt8} {cap : Nat} (h : RdB w (.slice a l.length cap) l) (m : Nat) (hm : m ≤ l.length) : RdB w (.slice a m cap) (l.take m) := by
  obtain ⟨a', cap', e, h1, h2, h3⟩ := h
  cases e
  have hl : (l.take m).length = m := by rw [List.length_take]; omega
  refine ⟨a, cap, by rw [hl], by omega, h2, fun h0 => ?_⟩
  rw [hl] at h0
  obtain ⟨g, o, e1, e2, e3⟩ := h3 (by omega)
  exact ⟨g, o, e1, e2, fun j hj => by
    rw [hl] at hj
    rw [e3 j (by omega), List.getElem_take]⟩

theorem RdB.drop {w : World} {a : Option Addr} {l : List UInt8} {cap : Nat} (h : RdB w (.slice a l.length cap) l) (m : Nat) (hm : m ≤ l.length) : RdB w (.slice (further a cap m) (l.length - m) (cap - m)) (l.drop m) := by
  obtain ⟨a', cap', e, h1, h2, h3⟩ := h
  cases e
  have hl : (l.drop m).length = l.length - m := by rw [List.length_drop]
  refine ⟨further a cap m, cap - m, by rw [hl], by omega, by omega, fun h0 => ?_⟩
  rw [hl] at h0
  obtain ⟨g, o, rfl, e2, e3⟩ := h3 (by omega)
  refine ⟨g, o + m, ?_, e2, fun j hj => ?_⟩
  · unfold further
    simp only []
    rw [if_neg (by omega)]
    by_cases h0 : m = 0
    · subst h0; rfl
    · rw [if_neg h0]
  · rw [hl] at hj
    have := e3 (m + j) (by omega)
    rw [← Nat.add_assoc] at this
    rw [this, List.getElem_drop]

theorem further_block {a : Option Addr} {cap k len c : Nat} {b : Nat} (h : (Value.slice (further a cap k) len c).ownBlock = some b) : ∃ ad, a = some ad ∧ ad.block = b := by
  cases a with
  | none => simp [further, Value.ownBlock] at h
  | some ad =>
    refine ⟨ad, rfl, ?_⟩
    unfold further at h
    simp only [] at h
    split at h
    · simpa [Value.ownBlock] using h
    · split at h <;> simpa [Value.ownBlock] using h

theorem Rg.below {w w' : World} {g r n : Nat} (h : Rg w g r) (hb : Below n w w') (hn : g < n) : Rg w' g r := by
  show w'.heap[g]? = _
  rw [hb.block g hn]
  exact h

/-- The four bytes of a number, the lowest first. -/
def b4 (n : Nat) : List UInt8 := [UInt8.ofNat n, UInt8.ofNat (n / 256), UInt8.ofNat (n / 65536), UInt8.ofNat (n / 16777216)]

theorem b4_num (n : Nat) (h : n < 4294967296) : num (b4 n) = n := by
  simp only [b4, num, UInt8.toNat_ofNat']
  omega

theorem ofNat_val (n : Nat) : ((UInt8.ofNat n).toNat : Int) = (n : Int) % 256 := by
  rw [UInt8.toNat_ofNat']
  omega

theorem rd_b4 (w : World) (n : Nat) (t : TypeId) : RdB (w.alloc (.cells #[by1 (UInt8.ofNat n), by1 (UInt8.ofNat (n / 256)), by1 (UInt8.ofNat (n / 65536)), by1 (UInt8.ofNat (n / 16777216))] t)) (.slice (some ⟨w.heap.size, 0, none⟩) 4 4) (b4 n) := by
  refine ⟨_, 4, rfl, Nat.le_refl _, by decide, fun _ => ⟨w.heap.size, 0, rfl, by simp, fun j hj => ?_⟩⟩
  have h4 : j < 4 := hj
  match j, h4 with
  | 0, _ => simp [b4]
  | 1, _ => simp [b4]
  | 2, _ => simp [b4]
  | 3, _ => simp [b4]

set_option maxRecDepth 100000 in
set_option maxHeartbeats 4000000 in
theorem sumCut_walk (v : Value) (l : List UInt8) (at0 : Int) (w : World) (hR : RdB w v l) (hl : l.length ≤ 140737488351232) (hat : -9223372036854775808 ≤ at0 ∧ at0 ≤ 9223372036854775807) :
    Calls Try.prog 7 #[v, nu at0] w fun e w' => e = .returned (.bool true) ∧ Below w.heap.size w w' := by
  obtain ⟨k, hk, hkl⟩ : ∃ k : Nat, Hid (at0 % ((l.length + 1 : Nat) : Int) = k) ∧ k ≤ l.length := ⟨(at0 % ((l.length + 1 : Nat) : Int)).toNat, by show _ = _; have := Int.emod_nonneg at0 (b := ((l.length + 1 : Nat) : Int)) (by omega); omega, by have := Int.emod_lt_of_pos at0 (b := ((l.length + 1 : Nat) : Int)) (by omega); have := Int.emod_nonneg at0 (b := ((l.length + 1 : Nat) : Int)) (by omega); omega⟩
  have C1 : Calls Try.prog 17 #[nu at0, nu ((l.length : Int) + 1)] w fun e w' => e = .returned (nu k) ∧ w' = w := by
    have := pick_any at0 (l.length + 1) w (by omega) (by omega) hat
    rw [hk.out] at this
    rwa [show ((l.length + 1 : Nat) : Int) = (l.length : Int) + 1 from by omega] at this
  have c2 := new_any w
  have hrg1 : Rg (w.alloc (.cells #[u4 4294967295] 34)) w.heap.size 4294967295 := heap_alloc_new w _
  have hb1 : Below w.heap.size w (w.alloc (.cells #[u4 4294967295] 34)) := (Below.refl _ _).alloc (Nat.le_refl _) _
  have hz1 : w.heap.size < (w.alloc (.cells #[u4 4294967295] 34)).heap.size := hrg1.lt
  have HR := Hid.mk' hR
  obtain ⟨a, cap, rfl, h1, h2, hc⟩ := hR
  have hne : ∀ ad, a = some ad → 0 < l.length → ad.block ≠ w.heap.size := fun ad e h0 => by
    obtain ⟨g, o, e1, e2, _⟩ := hc h0
    rw [e1] at e
    cases e
    exact Nat.ne_of_lt e2
  have hs1 := slice_to a l.length cap k (by omega)
  have hs2 := slice_from a l.length cap k hkl h1
  have hlt1 := reg_lt (l.take k) 4294967295 (by decide)
  have hlt2 := reg_lt l 4294967295 (by decide)
  have hreg : reg (reg 4294967295 (l.take k)) (l.drop k) = reg 4294967295 l := by rw [← reg_append, List.take_append_drop]
  have KA : Hid (∀ w', Rg w' w.heap.size 4294967295 ∧ Below w.heap.size w w' → Calls Try.prog 15 #[.pointer (some ⟨w.heap.size, 0, none⟩), .slice a k cap] w' fun e w'' => e = .returned (.tuple #[]) ∧ Rg w'' w.heap.size (reg 4294967295 (l.take k)) ∧ Below w.heap.size w w'') := fun w' h => by
    refine (add_any w.heap.size 4294967295 (.slice a k cap) (l.take k) w' (by decide) h.1 ((HR.out.below h.2).take k hkl) (fun h0 e => ?_)).mono ?_
    · cases a with
      | none => simp [Value.ownBlock] at e
      | some ad => exact hne ad rfl (by rw [List.length_take] at h0; omega) (by simpa [Value.ownBlock] using e)
    · rintro e w'' ⟨h3, h4, h5⟩
      exact ⟨h3, h4, h.2.trans (h5.below (Nat.le_refl _) h.2.size)⟩
  have KB : Hid (∀ w', Rg w' w.heap.size (reg 4294967295 (l.take k)) ∧ Below w.heap.size w w' → Calls Try.prog 15 #[.pointer (some ⟨w.heap.size, 0, none⟩), .slice (further a cap k) (l.length - k) (cap - k)] w' fun e w'' => e = .returned (.tuple #[]) ∧ Rg w'' w.heap.size (reg 4294967295 l) ∧ Below w.heap.size w w'') := fun w' h => by
    refine (add_any w.heap.size _ (.slice (further a cap k) (l.length - k) (cap - k)) (l.drop k) w' hlt1 h.1 ((HR.out.below h.2).drop k hkl) (fun h0 e => ?_)).mono ?_
    · obtain ⟨ad, e1, e2⟩ := further_block e
      exact hne ad e1 (by rw [List.length_drop] at h0; omega) e2
    · rintro e w'' ⟨h3, h4, h5⟩
      rw [hreg] at h4
      exact ⟨h3, h4, h.2.trans (h5.below (Nat.le_refl _) h.2.size)⟩
  have hcl := crc_lt l
  have hinv : Hid (4294967295 - reg 4294967295 l = crc l) := rfl
  have hown4 : Hid (4294967295 - reg (reg 4294967295 l) (b4 (crc l)) = 558161692) := by
    show _ = _
    have := crc_own l _ _ _ _ (b4_num (crc l) hcl)
    unfold crc at this
    rw [reg_append] at this
    exact this
  have hlt4 := reg_lt (b4 (crc l)) (reg 4294967295 l) hlt2
  have KC : Hid (∀ w' t, Rg w' w.heap.size (reg 4294967295 l) ∧ Below w.heap.size w w' → Calls Try.prog 15 #[.pointer (some ⟨w.heap.size, 0, none⟩), .slice (some ⟨w'.heap.size, 0, none⟩) 4 4] (w'.alloc (.cells #[by1 (UInt8.ofNat (crc l)), by1 (UInt8.ofNat (crc l / 256)), by1 (UInt8.ofNat (crc l / 65536)), by1 (UInt8.ofNat (crc l / 16777216))] t)) fun e w'' => e = .returned (.tuple #[]) ∧ Rg w'' w.heap.size (reg (reg 4294967295 l) (b4 (crc l))) ∧ Below w.heap.size w w'') := fun w' t h => by
    have hlt := h.1.lt
    have hB : Below w.heap.size w (w'.alloc (.cells #[by1 (UInt8.ofNat (crc l)), by1 (UInt8.ofNat (crc l / 256)), by1 (UInt8.ofNat (crc l / 65536)), by1 (UInt8.ofNat (crc l / 16777216))] t)) := h.2.alloc h.2.size _
    refine (add_any w.heap.size _ _ (b4 (crc l)) _ hlt2 (h.1.below ((Below.refl w'.heap.size w').alloc (Nat.le_refl _) _) hlt) (rd_b4 w' (crc l) t) (fun _ e => ?_)).mono ?_
    · have : w'.heap.size = w.heap.size := by simpa [Value.ownBlock] using e
      omega
    · rintro e w'' ⟨h3, h4, h5⟩
      exact ⟨h3, h4, hB.trans (h5.below (Nat.le_refl _) hB.size)⟩
  have KO : Hid (∀ w', Below w.heap.size w w' → Calls Try.prog 10 #[.slice a l.length cap] w' fun e w'' => e = .returned (u4 (crc l)) ∧ Below w'.heap.size w' w'') := fun w' h => of_any _ l w' (HR.out.below h)
  have v0 : by1 (UInt8.ofNat (crc l)) = .int .u8 ((crc l : Int) % 256) := by
    unfold by1; rw [ofNat_val]
  have v1 : by1 (UInt8.ofNat (crc l / 256)) = .int .u8 ((crc l : Int) / 256 % 256) := by
    unfold by1; rw [ofNat_val, Int.natCast_ediv]; rfl
  have v2 : by1 (UInt8.ofNat (crc l / 65536)) = .int .u8 ((crc l : Int) / 65536 % 256) := by
    unfold by1; rw [ofNat_val, Int.natCast_ediv]; rfl
  have v3 : by1 (UInt8.ofNat (crc l / 16777216)) = .int .u8 ((crc l : Int) / 16777216) := by
    unfold by1; rw [ofNat_val]
    congr 1
    omega
  rw [v0, v1, v2, v3] at KC
  clear hc hreg HR hne v0 v1 v2 v3 hat hk
  generalize reg (reg 4294967295 l) (b4 (crc l)) = r3 at *
  generalize reg 4294967295 (l.take k) = r1 at *
  generalize reg 4294967295 l = r2 at *
  generalize crc l = n at *
  unfold maxLen at h2
  generalize w.alloc (.cells #[u4 4294967295] 34) = W1 at *
  go_enter Try.func7, Try.ntmps7
  go_wp2_with fail
  refine C1.mono ?_
  rintro e w0 ⟨rfl, hq⟩
  subst w0
  go_wp2_with fail
  refine c2.mono ?_
  rintro e w0 ⟨rfl, hq⟩
  subst w0
  have cw := works_any W1
  go_wp2_with fail
  refine cw.mono ?_
  rintro e w3 ⟨rfl, hb3⟩
  have hrg3 := hrg1.below hb3 hz1
  have hB3 : Below w.heap.size w w3 := hb1.trans (hb3.mono hb1.size)
  have K4 := Hid.mk' (KA.out w3.drew ⟨hrg3, hB3.drew⟩)
  go_wp2_with fail
  go_region_held3 (fun w' => Below w.heap.size w w') (first | assumption | exact Below.drew (by assumption)) (first | (go_at_call 15; refine K4.out.mono ?_; rintro e w4 ⟨rfl, hrg4, hB4⟩))
  have K5 := Hid.mk' (KB.out w4.drew ⟨hrg4, hB4.drew⟩)
  go_wp2_with fail
  go_region_held3 (fun w' => Below w.heap.size w w') (first | assumption | exact Below.drew (by assumption)) (first | (go_at_call 15; refine K5.out.mono ?_; rintro e w5 ⟨rfl, hrg5, hB5⟩))
  have c6 := value_any w.heap.size r2 w5 hlt2 hrg5
  rw [hinv.out] at c6
  go_wp2_with fail
  refine c6.mono ?_
  rintro e w6 ⟨rfl, hq⟩
  subst w6
  go_wp2_with fail
  refine (KC.out w5 _ ⟨hrg5, hB5⟩).mono ?_
  rintro e w7 ⟨rfl, hrg7, hB7⟩
  go_wp2_with fail
  refine (KO.out w7 hB7).mono ?_
  rintro e w8 ⟨rfl, hb8⟩
  have hrg8 := hrg7.below hb8 hrg7.lt
  have c9 := value_any w.heap.size r3 w8 hlt4 hrg8
  rw [hown4.out] at c9
  go_wp2_with fail
  refine c9.mono ?_
  rintro e w9 ⟨rfl, hq⟩
  subst w9
  go_wp2
  go_ret
  exact ⟨rfl, hB7.trans (hb8.mono hB7.size)⟩
end Sm
end Go.Proofs.Ytahjkdcagkojoaa
