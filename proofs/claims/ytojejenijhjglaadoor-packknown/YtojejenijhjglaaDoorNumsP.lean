/- knownNumbers of PackKnown. -/
import Derived.Test.YtojejenijhjglaaDoorThereK
import Derived.Test.YtojejenijhjglaaDoorWritesK
namespace Go.Proofs.YtojejenijhjglaaDoor
set_option linter.ambiguousOpen false
open Go.RowKit
namespace Pk
open Sm Ft
set_option linter.unusedSimpArgs false
set_option linter.unusedVariables false
variable {RW RR : World → Nat → (Nat → Prop) → List UInt8 → Prop}

theorem tx_addP (l : List UInt8) (c : UInt8) : tx l ++ (⟨#[c]⟩ : ByteArray) = tx (l ++ [c]) := by
  apply ByteArray.ext
  simp [ByteArray.data_append]

def hex16 : List UInt8 := [48, 49, 50, 51, 52, 53, 54, 55, 56, 57, 97, 98, 99, 100, 101, 102]

theorem head_hex (i : Nat) (w : World) (hi : i ≤ 1000) : Calls Tryd.prog 27 #[.string ⟨#[48, 49, 50, 51, 52, 53, 54, 55, 56, 57, 97, 98, 99, 100, 101, 102]⟩, nu i] w fun e w' => e = .returned (.string (tx (hex16.take i))) ∧ w' = w := by
  have hx : Hid ((⟨#[48, 49, 50, 51, 52, 53, 54, 55, 56, 57, 97, 98, 99, 100, 101, 102]⟩ : ByteArray) = tx hex16) := rfl
  rw [hx.out]
  have hz : (tx hex16).size = 16 := rfl
  by_cases h0 : i = 0
  · subst h0
    have e : Hid (tx (hex16.take 0) = ⟨#[]⟩) := rfl
    rw [e.out]
    have h1 : ((0 : Nat) : Int) < 1 := by decide
    clear hx e
    generalize tx hex16 = f at *
    go_enter Tryd.func27, Tryd.ntmps27
    go_wp2
    go_ret
    exact ⟨rfl, rfl⟩
  · have h1 : ¬ (i : Int) < 1 := by omega
    by_cases h2 : 16 ≤ i
    · have e : Hid (hex16.take i = hex16) := List.take_of_length_le h2
      rw [e.out]
      have h3 : (16 : Int) ≤ (i : Int) := by omega
      clear hx e
      generalize tx hex16 = f at *
      go_enter Tryd.func27, Tryd.ntmps27
      go_wp2
      go_ret
      exact ⟨rfl, rfl⟩
    · have hc := fun w => cutS_to hex16 i (show i ≤ 16 by omega) w
      have h3 : ¬ (16 : Int) ≤ (i : Int) := by omega
      clear hx
      generalize tx (hex16.take i) = u at *
      generalize tx hex16 = f at *
      go_enter Tryd.func27, Tryd.ntmps27
      go_wp2
      go_ret
      exact ⟨rfl, rfl⟩

theorem rdI_new (w : World) (l : List Itm) (h : l.length ≤ 1000) : RdI (w.alloc (.cells (ics l).toArray 59)) (.slice (some ⟨w.heap.size, 0, none⟩) l.length l.length) l := by
  refine ⟨_, l.length, rfl, Nat.le_refl _, by unfold maxLen; omega, fun _ => ⟨w.heap.size, 0, rfl, by simp, fun k r hr => ?_⟩⟩
  obtain ⟨a1, a2, a3⟩ := ics_at l k r hr
  rw [Nat.zero_add, cell_of_row _ w.heap.size _ _ _ _ (heap_alloc_new w _), cell_of_row _ w.heap.size _ _ _ _ (heap_alloc_new w _), cell_of_row _ w.heap.size _ _ _ _ (heap_alloc_new w _)]
  simp only [List.getElem?_toArray]
  exact ⟨a1, a2, a3⟩

theorem nat64 (z : Int) : ∃ n : Nat, IntKind.u64.wrap z = (n : Int) ∧ n < 18446744073709551616 := by
  rw [IntKind.wrap_u64]
  exact ⟨(z % 18446744073709551616).toNat, by omega, by omega⟩

theorem bytes_small (r : Itm) (h1 : r.v < 18446744073709551616) (h2 : r.s.length ≤ 200) : r.bytes.length ≤ 210 := by
  unfold Itm.bytes
  split
  · have := sev_len10 r.s.length (by omega)
    unfold txt
    rw [List.length_append]
    omega
  · have := sev_len10 r.v h1
    omega

theorem allB_small (l : List Itm) (h : ∀ r ∈ l, r.v < 18446744073709551616 ∧ r.s.length ≤ 200) : (allB l).length ≤ l.length * 210 := by
  induction l with
  | nil => simp [allB]
  | cons r l ih =>
    have h1 := h r (by simp)
    have h2 := bytes_small r h1.1 h1.2
    have h3 := ih (fun x hx => h x (by simp [hx]))
    show (r.bytes ++ allB l).length ≤ (l.length + 1) * 210
    rw [List.length_append]
    omega

set_option maxRecDepth 100000 in
set_option maxHeartbeats 2000000 in
theorem numbers_yes (S : Says RW RR) (w : World) : Calls Tryd.prog 16 #[] w fun e w' => e = .returned (.bool true) ∧ Below w.heap.size w w' := by
  have cW : Hid (∀ wx v l, RdI wx v l → l.length ≤ 100 → (∀ r ∈ l, r.v < 18446744073709551616 ∧ r.s.length ≤ 200) → Below w.heap.size w wx → Calls Tryd.prog 28 #[v] wx fun e w' => e = .returned (.bool true) ∧ Below w.heap.size w w' ∧ Below wx.heap.size wx w') := fun wx v l h1 h2 h3 hb => (writes_yes S v l wx h1 (fun r hr => (h3 r hr).1) (by have := allB_small l h3; omega)).mono fun _ w' ⟨a, b⟩ => ⟨a, hb.trans (b.mono hb.size), b⟩
  have cT : Hid (∀ wx v l, RdI wx v l → l.length ≤ 100 → (∀ r ∈ l, r.v < 18446744073709551616 ∧ r.s.length ≤ 200) → Below w.heap.size w wx → Calls Tryd.prog 29 #[v] wx fun e w' => e = .returned (.bool true) ∧ Below w.heap.size w w' ∧ Below wx.heap.size wx w') := fun wx v l h1 h2 h3 hb => (there_yes S v l wx h1 (fun r hr => (h3 r hr).1) (by have := allB_small l h3; omega)).mono fun _ w' ⟨a, b⟩ => ⟨a, hb.trans (b.mono hb.size), b⟩
  go_enter Tryd.func16, Tryd.ntmps16
  go_wp2
  go_loopw [1] (fun iv wr => ∃ k : Nat, k ≤ 64 ∧ iv = nu k ∧ Hid (Below w.heap.size w wr)) (fun iv _ => 64 - (intOf iv).toNat)
  case atStart => exact ⟨0, by omega, rfl, Below.refl _ _⟩
  case round =>
    obtain ⟨k, hk, rfl, hB⟩ := hrel
    by_cases hp : (k : Int) < 64
    · have c1 := Hid.mk' (head_hex k wr (by omega))
      have hk0 : (0 : Int) ≤ (k : Int) := by omega
      obtain ⟨n0, e0, h0⟩ := nat64 (2 ^ k)
      obtain ⟨n1, e1, h1⟩ := nat64 ((n0 : Int) - 1)
      obtain ⟨n2, e2, h2⟩ := nat64 ((n0 : Int) + 1)
      obtain ⟨n3, e3, h3⟩ := nat64 (-(n0 : Int))
      have hI : RdI (wr.alloc (.cells #[.bool false, .int .u64 (n0 : Int), .string ⟨#[]⟩, .bool false, .int .u64 (n1 : Int), .string ⟨#[]⟩, .bool false, .int .u64 (n2 : Int), .string ⟨#[]⟩, .bool false, .int .u64 (n3 : Int), .string ⟨#[]⟩, .bool true, .int .u64 0, .string (tx (hex16.take k))] 59)) (.slice (some ⟨wr.heap.size, 0, none⟩) 5 5) [⟨false, n0, []⟩, ⟨false, n1, []⟩, ⟨false, n2, []⟩, ⟨false, n3, []⟩, ⟨true, 0, hex16.take k⟩] := rdI_new wr [⟨false, n0, []⟩, ⟨false, n1, []⟩, ⟨false, n2, []⟩, ⟨false, n3, []⟩, ⟨true, 0, hex16.take k⟩] (by show 5 ≤ 1000; decide)
      have hA : ∀ r ∈ ([⟨false, n0, []⟩, ⟨false, n1, []⟩, ⟨false, n2, []⟩, ⟨false, n3, []⟩, ⟨true, 0, hex16.take k⟩] : List Itm), r.v < 18446744073709551616 ∧ r.s.length ≤ 200 := fun r hr => by
        have h16 : (hex16.take k).length ≤ 200 := by rw [List.length_take]; show min k 16 ≤ 200; omega
        simp only [List.mem_cons, List.not_mem_nil, or_false] at hr
        rcases hr with rfl | rfl | rfl | rfl | rfl
        · exact ⟨h0, Nat.zero_le _⟩
        · exact ⟨h1, Nat.zero_le _⟩
        · exact ⟨h2, Nat.zero_le _⟩
        · exact ⟨h3, Nat.zero_le _⟩
        · exact ⟨by show 0 < _; decide, h16⟩
      have hBA : Below w.heap.size w (wr.alloc (.cells #[.bool false, .int .u64 (n0 : Int), .string ⟨#[]⟩, .bool false, .int .u64 (n1 : Int), .string ⟨#[]⟩, .bool false, .int .u64 (n2 : Int), .string ⟨#[]⟩, .bool false, .int .u64 (n3 : Int), .string ⟨#[]⟩, .bool true, .int .u64 0, .string (tx (hex16.take k))] 59)) := hB.out.alloc hB.out.size _
      have C1 := Hid.mk' (cW.out _ _ _ hI (by show 5 ≤ 100; decide) hA hBA)
      have C2 : Hid (∀ wx, Below w.heap.size w wx → Below (wr.alloc (.cells #[.bool false, .int .u64 (n0 : Int), .string ⟨#[]⟩, .bool false, .int .u64 (n1 : Int), .string ⟨#[]⟩, .bool false, .int .u64 (n2 : Int), .string ⟨#[]⟩, .bool false, .int .u64 (n3 : Int), .string ⟨#[]⟩, .bool true, .int .u64 0, .string (tx (hex16.take k))] 59)).heap.size (wr.alloc (.cells #[.bool false, .int .u64 (n0 : Int), .string ⟨#[]⟩, .bool false, .int .u64 (n1 : Int), .string ⟨#[]⟩, .bool false, .int .u64 (n2 : Int), .string ⟨#[]⟩, .bool false, .int .u64 (n3 : Int), .string ⟨#[]⟩, .bool true, .int .u64 0, .string (tx (hex16.take k))] 59)) wx → Calls Tryd.prog 29 #[.slice (some ⟨wr.heap.size, 0, none⟩) 5 5] wx fun e w' => e = .returned (.bool true) ∧ Below w.heap.size w w' ∧ Below wx.heap.size wx w') := fun wx hb hb2 => cT.out _ _ _ (hI.below hb2) (by show 5 ≤ 100; decide) hA hb
      clear hI hA hBA
      generalize tx (hex16.take k) = fh at *
      go_wp2_with fail
      refine c1.out.mono ?_
      rintro e w' ⟨rfl, hw⟩
      subst w'
      go_wp2_with fail
      refine C1.out.mono ?_
      rintro e w3 ⟨rfl, hb3, hb3'⟩
      have C3 := Hid.mk' (C2.out _ hb3 hb3')
      clear hb3 hb3' C1 C2
      go_wp2_with fail
      refine C3.out.mono ?_
      rintro e w4 ⟨rfl, hb4, _⟩
      have HB4 := Hid.mk' hb4
      clear hb4 C3 e0 e1 e2 e3
      go_wp2
      go_roundw
      case rel => exact ⟨k + 1, by omega, by go_num, HB4⟩
      case measure => simp [intOf]; omega
    · go_wp2
      clear hp hk
      go_loopw [4, 5] (fun sv iv wr => ∃ k : Nat, k ≤ 130 ∧ iv = nu k ∧ sv = .string (tx (List.replicate k 120)) ∧ Hid (Below w.heap.size w wr)) (fun _ iv _ => 130 - (intOf iv).toNat)
      case atStart => exact ⟨0, by omega, rfl, rfl, hB⟩
      case round =>
        clear hB
        obtain ⟨k2, hk, rfl, rfl, hB⟩ := hrel
        by_cases hp : (k2 : Int) < 130
        · have hz : (tx (List.replicate k2 (120 : UInt8))).size = k2 := by show (List.replicate k2 (120 : UInt8)).toArray.size = k2; simp
          have hsum : Hid (tx (List.replicate k2 (120 : UInt8)) ++ (⟨#[120]⟩ : ByteArray) = tx (List.replicate (k2 + 1) 120)) := by
            show _ = _
            rw [List.replicate_succ']
            exact tx_addP _ _
          have hI : Hid (∀ wx : World, RdI (wx.alloc (.cells #[.bool true, .int .u64 0, .string (tx (List.replicate k2 120)), .bool false, .int .u64 7, .string ⟨#[]⟩] 59)) (.slice (some ⟨wx.heap.size, 0, none⟩) 2 2) [⟨true, 0, List.replicate k2 120⟩, ⟨false, 7, []⟩]) := fun wx => rdI_new wx [⟨true, 0, List.replicate k2 120⟩, ⟨false, 7, []⟩] (by show 2 ≤ 1000; decide)
          have hI1 : Hid (∀ wx : World, RdI (wx.alloc (.cells #[.bool true, .int .u64 0, .string (tx (List.replicate k2 120))] 59)) (.slice (some ⟨wx.heap.size, 0, none⟩) 1 1) [⟨true, 0, List.replicate k2 120⟩]) := fun wx => rdI_new wx [⟨true, 0, List.replicate k2 120⟩] (by show 1 ≤ 1000; decide)
          have hr : (List.replicate k2 (120 : UInt8)).length ≤ 200 := by rw [List.length_replicate]; omega
          have hA : Hid (∀ r ∈ ([⟨true, 0, List.replicate k2 120⟩, ⟨false, 7, []⟩] : List Itm), r.v < 18446744073709551616 ∧ r.s.length ≤ 200) := fun r hrr => by
            simp only [List.mem_cons, List.not_mem_nil, or_false] at hrr
            rcases hrr with rfl | rfl
            · exact ⟨by show 0 < _; decide, hr⟩
            · exact ⟨by show 7 < _; decide, Nat.zero_le _⟩
          have hA1 : Hid (∀ r ∈ ([⟨true, 0, List.replicate k2 120⟩] : List Itm), r.v < 18446744073709551616 ∧ r.s.length ≤ 200) := fun r hrr => by
            simp only [List.mem_cons, List.not_mem_nil, or_false] at hrr
            subst hrr
            exact ⟨by show 0 < _; decide, hr⟩
          have C1 := Hid.mk' (cT.out _ _ _ (hI.out wr) (by show 2 ≤ 100; decide) hA.out (hB.out.alloc hB.out.size _))
          have C2 : Hid (∀ wx, Below w.heap.size w wx → Calls Tryd.prog 28 #[.slice (some ⟨wx.heap.size, 0, none⟩) 1 1] (wx.alloc (.cells #[.bool true, .int .u64 0, .string (tx (List.replicate k2 120))] 59)) fun e w' => e = .returned (.bool true) ∧ Below w.heap.size w w' ∧ _) := fun wx hb => cW.out _ _ _ (hI1.out wx) (by show 1 ≤ 100; decide) hA1.out (hb.alloc hb.size _)
          clear hI hI1 hA hA1 hr
          generalize tx (List.replicate k2 120) = fl at *
          have hz2 : ¬ 9223372036854775807 < fl.size + 1 := by omega
          go_wp2_with fail
          refine C1.out.mono ?_
          rintro e w3 ⟨rfl, hb3, _⟩
          have C3 := Hid.mk' (C2.out _ hb3)
          clear hb3 C1 C2
          go_wp2_with fail
          refine C3.out.mono ?_
          rintro e w4 ⟨rfl, hb4, _⟩
          have HB4 := Hid.mk' hb4
          clear hb4 C3
          go_wp2
          go_roundw
          case rel => exact ⟨k2 + 1, by omega, by go_num, by rw [hsum.out], HB4⟩
          case measure => simp [intOf]; omega
        · go_wp2
          go_ret
          exact ⟨rfl, hB.out⟩
end Pk
end Go.Proofs.YtojejenijhjglaaDoor
