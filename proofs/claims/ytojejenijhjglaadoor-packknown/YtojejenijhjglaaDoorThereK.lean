/- PackThere. -/
import Derived.Test.YtojejenijhjglaaDoorPutK
namespace Go.Proofs.YtojejenijhjglaaDoor
set_option linter.ambiguousOpen false
open Go.RowKit
namespace Pk
open Sm Ft
set_option linter.unusedSimpArgs false
set_option linter.unusedVariables false
variable {RW RR : World → Nat → (Nat → Prop) → List UInt8 → Prop}

theorem allB_drop (l : List Itm) (k : Nat) (r : Itm) (h : l[k]? = some r) : allB (l.drop k) = r.bytes ++ allB (l.drop (k + 1)) := by
  obtain ⟨hk, rfl⟩ := List.getElem?_eq_some_iff.1 h
  rw [List.drop_eq_getElem_cons hk]
  rfl

set_option maxRecDepth 100000 in
set_option maxHeartbeats 2000000 in
theorem there_yes (S : Says RW RR) (v : Value) (l : List Itm) (w : World) (hR : RdI w v l) (hf : ∀ r ∈ l, r.v < 18446744073709551616) (hl : (allB l).length ≤ 140737488351232) :
    Calls Tryd.prog 29 #[v] w fun e w' => e = .returned (.bool true) ∧ Below w.heap.size w w' := by
  have c0 := Hid.mk' (works_yes S w)
  have c1 : Hid (∀ wx, Below w.heap.size w wx → Calls Tryd.prog 49 #[v] wx fun e w' => ∃ x, e = .returned x ∧ RdB w' x (allB l) ∧ Below w.heap.size w w') := fun wx hb =>
    (put_any S v l wx (hR.below hb) hf hl).mono fun _ w' ⟨x, a, b, c⟩ => ⟨x, a, own_rd b, hb.trans (c.mono hb.size)⟩
  have c2 : Hid (∀ wx x, RdB wx x (allB l) → Below w.heap.size w wx → Calls Tryd.prog 6 #[x] wx fun e w' => ∃ p, e = .returned (ptr p) ∧ Rr RR w w' p (allB l)) := fun wx x h hb =>
    (open_rr S wx x _ h hl).mono fun _ w' ⟨p, a, b⟩ => ⟨p, a, rr_from b hb⟩
  have c3 : Hid (∀ wx p (s r : List UInt8), Rr RR w wx p (txt s ++ r) → s.length ≤ 9223372036854775807 → Calls Tryd.prog 12 #[ptr p, .int .i64 (s.length : Int)] wx fun e w' => e = .returned (.tuple #[.string (tx s), .nilIface]) ∧ Rr RR w w' p r) := fun wx p s r h hs => by
    have ht := taken_txt s r s.length (by omega) (Nat.le_refl _)
    have := rtext_rr S w wx p _ (s.length : Int) h (by omega)
    rw [Int.toNat_natCast, ht] at this
    simp only [List.drop_left] at this
    exact this
  have c4 : Hid (∀ wx p (n : Nat) (r : List UInt8), Rr RR w wx p (sev n ++ r) → n < 18446744073709551616 → Calls Tryd.prog 14 #[ptr p] wx fun e w' => e = .returned (.tuple #[.int .u64 (n : Int), .nilIface]) ∧ Rr RR w w' p r) := fun wx p n r h hn => by
    have ht := num_sev n r hn
    have := rnum_rr S w wx p _ h
    rw [ht] at this
    simp only [List.drop_left] at this
    exact this
  have c5 : Hid (∀ wx p, Rr RR w wx p [] → Calls Tryd.prog 11 #[ptr p] wx fun e w' => e = .returned .nilIface ∧ Rr RR w w' p []) := fun wx p h => end_rr S w wx p [] h
  have c6 : Hid (∀ wx p, Rr RR w wx p [] → Calls Tryd.prog 9 #[ptr p] wx fun e w' => e = .returned (.int .i64 0) ∧ Rr RR w w' p []) := fun wx p h => left_rr S w wx p [] h
  obtain ⟨a, cap, rfl, hc, hm, hcell⟩ := hR
  have HC := Hid.mk' hcell
  have HF := Hid.mk' hf
  unfold maxLen at hm
  clear hcell hf
  go_enter Tryd.func29, Tryd.ntmps29
  go_wp2_with fail
  refine c0.out.mono ?_
  rintro e w1 ⟨rfl, h1⟩
  have C1 := Hid.mk' (c1.out _ h1)
  clear h1
  go_wp2_with fail
  refine C1.out.mono ?_
  rintro e w2 ⟨x, rfl, hx, h2⟩
  have C2 := Hid.mk' (c2.out _ _ hx h2)
  obtain ⟨ax, capx, rfl, _⟩ := hx
  clear h2 C1
  go_wp2_with fail
  refine C2.out.mono ?_
  rintro e w3 ⟨p, rfl, h3⟩
  have H3 := Hid.mk' h3
  clear h3 C2 c0 c1 c2
  go_wp2
  go_loopw [4] (fun iv wr => ∃ k : Nat, k ≤ l.length ∧ iv = nu k ∧ Hid (Rr RR w wr p (allB (l.drop k)))) (fun iv _ => l.length - (intOf iv).toNat)
  case atStart => exact ⟨0, Nat.zero_le _, rfl, H3⟩
  case round =>
    obtain ⟨k, hk, rfl, hW⟩ := hrel
    by_cases hp : (k : Int) < (l.length : Int)
    · obtain ⟨g, o, rfl, hgl, hcj⟩ := HC.out (by omega)
      obtain ⟨r, hr⟩ : ∃ r, l[k]? = some r := ⟨_, List.getElem?_eq_getElem (by omega)⟩
      obtain ⟨q0, q1, q2⟩ := hcj k r hr
      have hbw : Below w.heap.size w wr := by
        obtain ⟨F, _, _, h3⟩ := hW.out
        exact h3
      have hrv := HF.out r (List.mem_of_getElem? hr)
      have hA := allB_drop l k r hr
      have hle : r.bytes.length ≤ (allB l).length := by
        have h1 := allB_take l k r hr
        have h2 := allB_le l (k + 1)
        rw [h1, List.length_append] at h2
        omega
      have hk0 : (0 : Int) ≤ (k : Int) := by omega
      obtain ⟨rt, rv, rs⟩ := r
      have p0 := (hbw.cell (p := ⟨g, o + k * 3, none⟩) hgl).trans q0
      have p1 := (hbw.cell (p := ⟨g, o + k * 3 + 1, none⟩) hgl).trans q1
      have p2 := (hbw.cell (p := ⟨g, o + k * 3 + 2, none⟩) hgl).trans q2
      have hlat : Hid (∀ w2, Rr RR w w2 p (allB (l.drop (k + 1))) → w2.cell? ⟨g, o + k * 3 + 1, none⟩ = some (.int .u64 (rv : Int)) ∧ w2.cell? ⟨g, o + k * 3 + 2, none⟩ = some (.string (tx rs))) := fun w2 h => by
        obtain ⟨F, _, _, h3⟩ := h
        exact ⟨(h3.cell (p := ⟨g, o + k * 3 + 1, none⟩) hgl).trans q1, (h3.cell (p := ⟨g, o + k * 3 + 2, none⟩) hgl).trans q2⟩
      cases rt with
      | true =>
        have hsl : rs.length ≤ 140737488351232 := by
          have : (txt rs).length ≤ (allB l).length := hle
          simp [txt] at this
          omega
        have hA' : allB (l.drop k) = txt rs ++ allB (l.drop (k + 1)) := hA
        have hW' := hW.out
        rw [hA'] at hW'
        have C := Hid.mk' (c3.out wr p rs _ hW' (by omega))
        have hz : (tx rs).size = rs.length := rfl
        simp only at p0 p1 p2
        clear hcj hr hA hA' hle hbw hW' q0 q1 q2
        generalize tx rs = f at *
        go_wp2_with fail
        refine C.out.mono ?_
        rintro e w2 ⟨rfl, h2⟩
        obtain ⟨z1, z2⟩ := hlat.out w2 h2
        have H2 := Hid.mk' h2
        clear h2 C p0 p1 p2
        go_wp2
        go_roundw
        case rel => exact ⟨k + 1, by omega, by go_num, H2⟩
        case measure => simp [intOf]; omega
      | false =>
        have hA' : allB (l.drop k) = sev rv ++ allB (l.drop (k + 1)) := hA
        have hW' := hW.out
        rw [hA'] at hW'
        have C := Hid.mk' (c4.out wr p rv _ hW' hrv)
        simp only at p0 p1 p2
        clear hcj hr hA hA' hle hbw hW' q0 q1 q2
        generalize tx rs = f at *
        go_wp2_with fail
        refine C.out.mono ?_
        rintro e w2 ⟨rfl, h2⟩
        obtain ⟨z1, z2⟩ := hlat.out w2 h2
        have H2 := Hid.mk' h2
        clear h2 C p0 p1 p2
        go_wp2
        go_roundw
        case rel => exact ⟨k + 1, by omega, by go_num, H2⟩
        case measure => simp [intOf]; omega
    · obtain rfl : k = l.length := by omega
      have hW' := hW.out
      rw [List.drop_of_length_le (Nat.le_refl _)] at hW'
      have C := Hid.mk' (c5.out wr p hW')
      clear hW'
      go_wp2_with fail
      refine C.out.mono ?_
      rintro e w2 ⟨rfl, h2⟩
      have C6 := Hid.mk' (c6.out w2 p h2)
      clear h2 C
      go_wp2_with fail
      refine C6.out.mono ?_
      rintro e w4 ⟨rfl, h4⟩
      have hB : Hid (Below w.heap.size w w4) := by
        obtain ⟨F, _, _, h3⟩ := h4
        exact h3
      clear h4 C6
      go_wp2
      go_ret
      exact ⟨rfl, hB.out⟩
end Pk
end Go.Proofs.YtojejenijhjglaaDoor
