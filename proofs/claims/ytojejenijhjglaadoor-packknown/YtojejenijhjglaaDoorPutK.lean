/- 'works' and 'put' of the laws. -/
import Derived.Test.YtojejenijhjglaaDoorPackP
namespace Go.Proofs.YtojejenijhjglaaDoor
set_option linter.ambiguousOpen false
open Go.RowKit
namespace Pk
open Sm Ft
set_option linter.unusedSimpArgs false
set_option linter.unusedVariables false
variable {RW RR : World → Nat → (Nat → Prop) → List UInt8 → Prop}

theorem sev300 : sev 300 = [172, 2] := by
  rw [sev_ge 300 (by decide), sev_lt (300 / 128) (by decide)]
  rfl

theorem rd_new (w : World) (l : List UInt8) (h : l.length ≤ 1000000) : RdB (w.alloc (.cells (l.map by1).toArray 5)) (.slice (some ⟨w.heap.size, 0, none⟩) l.length l.length) l := by
  refine ⟨_, l.length, rfl, Nat.le_refl _, by unfold maxLen; omega, fun _ => ⟨w.heap.size, 0, rfl, by simp, fun j hj => ?_⟩⟩
  rw [Nat.zero_add, cell_of_row _ w.heap.size j _ _ _ (heap_alloc_new w _)]
  simp [hj]

theorem works_yes (S : Says RW RR) (w : World) : Calls Tryd.prog 31 #[] w fun e w' => e = .returned (.bool true) ∧ Below w.heap.size w w' := by
  have c1 := Hid.mk' (new_wr S w)
  have c2 : Hid (∀ wx p, Wr RW w wx p [] → Calls Tryd.prog 46 #[ptr p, .int .u64 300] wx fun e w' => (∃ u, e = .returned u) ∧ Wr RW w w' p [172, 2]) := fun wx p h => by
    have := number_wr S w wx p [] 300 h (by decide) (by rw [sev300]; decide)
    rw [sev300] at this
    exact this
  have c3 : Hid (∀ wx p, Wr RW w wx p [172, 2] → Calls Tryd.prog 42 #[ptr p] wx fun e w' => ∃ v, e = .returned v ∧ w'.ownsRow wx.heap.size 5 1 v 2 ([172, 2].map by1) ∧ Below wx.heap.size wx w' ∧ Wr RW w w' p [172, 2]) := fun wx p h => bytes_wr S w wx p [172, 2] h (by decide)
  have c4 : Hid (∀ wx v1 v2, RdB wx v1 [172, 2] → RdB wx v2 [172, 2] → Calls Tryd.prog 47 #[v1, v2] wx fun e w' => e = .returned (.bool true) ∧ Below wx.heap.size wx w') := fun wx v1 v2 h1 h2 => sameB_eq v1 v2 _ wx h1 h2
  go_enter Tryd.func31, Tryd.ntmps31
  go_wp2_with fail
  refine c1.out.mono ?_
  rintro e w1 ⟨p, rfl, h1⟩
  go_wp2_with fail
  refine (c2.out _ _ h1).mono ?_
  rintro e w2 ⟨⟨u, rfl⟩, h2⟩
  go_wp2_with fail
  refine (c3.out _ _ h2).mono ?_
  rintro e w3 ⟨v, rfl, ho, hb, h3⟩
  obtain ⟨a, cap, ev, _⟩ := own_rd (l := [172, 2]) ho
  simp only [List.length_cons, List.length_nil, Nat.reduceAdd] at ev
  subst ev
  have hr1 : RdB (w3.alloc (.cells #[.int .u8 172, .int .u8 2] 5)) (.slice a 2 cap) [172, 2] := (own_rd (l := [172, 2]) ho).below ((Below.refl _ _).alloc (Nat.le_refl _) _)
  have hr2 : RdB (w3.alloc (.cells #[.int .u8 172, .int .u8 2] 5)) (.slice (some ⟨w3.heap.size, 0, none⟩) 2 2) [172, 2] := rd_new w3 [172, 2] (by decide)
  have C4 := Hid.mk' (c4.out _ _ _ hr1 hr2)
  have hB : Hid (Below w.heap.size w (w3.alloc (.cells #[.int .u8 172, .int .u8 2] 5))) := by
    obtain ⟨F, _, _, hb3⟩ := h3
    exact hb3.alloc hb3.size _
  clear hr1 hr2 c4 c3 c2 c1 h1 h2 h3 ho hb
  go_wp2_with fail
  refine C4.out.mono ?_
  rintro e w4 ⟨rfl, hb4⟩
  have hB4 := Hid.mk' (hB.out.trans (hb4.mono hB.out.size))
  clear hb4
  go_wp2
  go_ret
  exact ⟨rfl, hB4.out⟩

/-- All that is put, as bytes. -/
def allB (l : List Itm) : List UInt8 := l.flatMap Itm.bytes

theorem allB_snoc (l : List Itm) (r : Itm) : allB (l ++ [r]) = allB l ++ r.bytes := by simp [allB]

theorem allB_take (l : List Itm) (k : Nat) (r : Itm) (h : l[k]? = some r) : allB (l.take (k + 1)) = allB (l.take k) ++ r.bytes := by
  rw [List.take_add_one, h]
  exact allB_snoc _ _

theorem allB_le (l : List Itm) (k : Nat) : (allB (l.take k)).length ≤ (allB l).length := by
  have h : allB l = allB (l.take k) ++ allB (l.drop k) := by
    unfold allB
    rw [← List.flatMap_append, List.take_append_drop]
  rw [h, List.length_append]
  omega

set_option maxHeartbeats 1000000 in
theorem put_any (S : Says RW RR) (v : Value) (l : List Itm) (w : World) (hR : RdI w v l) (hf : ∀ r ∈ l, r.v < 18446744073709551616) (hl : (allB l).length ≤ 140737488351232) :
    Calls Tryd.prog 49 #[v] w fun e w' => ∃ x, e = .returned x ∧ w'.ownsRow w.heap.size 5 1 x (allB l).length ((allB l).map by1) ∧ Below w.heap.size w w' := by
  have c1 := Hid.mk' (new_wr S w)
  have c2 : Hid (∀ wx p m (n : Nat), Wr RW w wx p m → n < 18446744073709551616 → (m ++ sev n).length ≤ 140737488351232 → Calls Tryd.prog 46 #[ptr p, .int .u64 (n : Int)] wx fun e w' => (∃ u, e = .returned u) ∧ Wr RW w w' p (m ++ sev n)) := fun wx p m n => number_wr S w wx p m n
  have c3 : Hid (∀ wx p m s, Wr RW w wx p m → (m ++ txt s).length ≤ 140737488351232 → Calls Tryd.prog 44 #[ptr p, .string (tx s)] wx fun e w' => (∃ u, e = .returned u) ∧ Wr RW w w' p (m ++ txt s)) := fun wx p m s => text_wr S w wx p m s
  have c4 : Hid (∀ wx p m, Wr RW w wx p m → m.length ≤ 140737488351232 → Calls Tryd.prog 42 #[ptr p] wx fun e w' => ∃ v, e = .returned v ∧ w'.ownsRow wx.heap.size 5 1 v m.length (m.map by1) ∧ Below wx.heap.size wx w' ∧ Wr RW w w' p m) := fun wx p m => bytes_wr S w wx p m
  obtain ⟨a, cap, rfl, hc, hm, hcell⟩ := hR
  have HC := Hid.mk' hcell
  have HF := Hid.mk' hf
  unfold maxLen at hm
  clear hcell hf
  go_enter Tryd.func49, Tryd.ntmps49
  go_wp2_with fail
  refine c1.out.mono ?_
  rintro e w1 ⟨p, rfl, h1⟩
  have H1 := Hid.mk' h1
  clear h1 c1
  go_wp2
  go_loopw [4] (fun iv wr => ∃ k : Nat, k ≤ l.length ∧ iv = nu k ∧ Hid (Wr RW w wr p (allB (l.take k)))) (fun iv _ => l.length - (intOf iv).toNat)
  case atStart => exact ⟨0, Nat.zero_le _, rfl, H1⟩
  case round =>
    obtain ⟨k, hk, rfl, hW⟩ := hrel
    by_cases hp : (k : Int) < (l.length : Int)
    · obtain ⟨g, o, rfl, hgl, hcj⟩ := HC.out (by omega)
      obtain ⟨r, hr⟩ : ∃ r, l[k]? = some r := ⟨_, List.getElem?_eq_getElem (by omega)⟩
      obtain ⟨q0, q1, q2⟩ := hcj k r hr
      have hbw : Below w.heap.size w wr := by
        obtain ⟨F, _, _, h3⟩ := hW.out
        exact h3
      rw [← hbw.cell (p := ⟨g, o + k * 3, none⟩) hgl] at q0
      rw [← hbw.cell (p := ⟨g, o + k * 3 + 1, none⟩) hgl] at q1
      rw [← hbw.cell (p := ⟨g, o + k * 3 + 2, none⟩) hgl] at q2
      have hrv := HF.out r (List.mem_of_getElem? hr)
      have hA := allB_take l k r hr
      have hle := allB_le l (k + 1)
      have hk0 : (0 : Int) ≤ (k : Int) := by omega
      obtain ⟨rt, rv, rs⟩ := r
      cases rt with
      | true =>
        have hA' : allB (l.take (k + 1)) = allB (l.take k) ++ txt rs := hA
        have C := Hid.mk' (c3.out wr p _ rs hW.out (by rw [← hA']; omega))
        rw [← hA'] at C
        simp only at q0 q1 q2
        clear hcj hr hA hA' hle hbw
        generalize tx rs = f at *
        go_wp2_with fail
        refine C.out.mono ?_
        rintro e w2 ⟨⟨u, rfl⟩, h2⟩
        have H2 := Hid.mk' h2
        clear h2 C q0 q1 q2
        go_wp2
        go_roundw
        case rel => exact ⟨k + 1, by omega, by go_num, H2⟩
        case measure => simp [intOf]; omega
      | false =>
        have hA' : allB (l.take (k + 1)) = allB (l.take k) ++ sev rv := hA
        have C := Hid.mk' (c2.out wr p _ rv hW.out hrv (by rw [← hA']; omega))
        rw [← hA'] at C
        simp only at q0 q1 q2
        clear hcj hr hA hA' hle hbw
        go_wp2_with fail
        refine C.out.mono ?_
        rintro e w2 ⟨⟨u, rfl⟩, h2⟩
        have H2 := Hid.mk' h2
        clear h2 C q0 q1 q2
        go_wp2
        go_roundw
        case rel => exact ⟨k + 1, by omega, by go_num, H2⟩
        case measure => simp [intOf]; omega
    · obtain rfl : k = l.length := by omega
      have hW' := hW.out
      rw [List.take_length] at hW'
      have C := Hid.mk' (c4.out wr p _ hW' hl)
      clear hW'
      go_wp2_with fail
      refine C.out.mono ?_
      rintro e w2 ⟨x, rfl, ho, hb, h2⟩
      have hO : Hid (w2.ownsRow w.heap.size 5 1 x (allB l).length ((allB l).map by1)) := by
        obtain ⟨F, _, _, h3⟩ := hW.out
        exact own_mono ho h3.size
      have hB : Hid (Below w.heap.size w w2) := by
        obtain ⟨F, _, _, h3⟩ := h2
        exact h3
      obtain ⟨a2, cap2, rfl, _⟩ := Nm.own_shape ho
      clear ho hb h2 C
      go_wp2
      go_ret
      exact ⟨_, rfl, hO.out, hB.out⟩
end Pk
end Go.Proofs.YtojejenijhjglaaDoor
