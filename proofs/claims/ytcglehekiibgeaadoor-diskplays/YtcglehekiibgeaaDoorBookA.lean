/- All rows of a book lie apart. -/
import Derived.Test.YtcglehekiibgeaaDoorBookR
namespace Go.Proofs.YtcglehekiibgeaaDoor
set_option linter.ambiguousOpen false
open Go.RowKit
namespace Dk
open Sm Ft
set_option linter.unusedSimpArgs false
set_option linter.unusedVariables false

theorem apart0_Raws (w : World) : Calls Tryd.prog 38 #[.slice none 0 0] w fun e w' => e = .returned (.bool true) ∧ w' = w := by
  go_enter Tryd.func38, Tryd.ntmps38
  go_wp2
  go_loopw [3, 4] (fun kv _ wr => kv = .int .i64 0 ∧ Hid (wr = w)) (fun _ _ _ => 0)
  case atStart => exact ⟨rfl, rfl⟩
  case round =>
    obtain ⟨rfl, hw⟩ := hrel
    go_wp2
    go_loopw [5, 6] (fun gv kv wr => gv = .slice none 0 0 ∧ kv = .int .i64 0 ∧ Hid (wr = w)) (fun _ _ _ => 0)
    case atStart => exact ⟨rfl, rfl, hw⟩
    case round =>
      obtain ⟨rfl, rfl, hw⟩ := hrel
      go_wp2
      go_loopw [9] (fun kv wr => kv = .int .i64 0 ∧ Hid (wr = w)) (fun _ _ => 0)
      case atStart => exact ⟨rfl, hw⟩
      case round =>
        obtain ⟨rfl, hw⟩ := hrel
        go_wp2
        go_ret
        exact ⟨rfl, hw.out⟩

theorem apart0_Bytes (w : World) : Calls Tryd.prog 30 #[.slice none 0 0] w fun e w' => e = .returned (.bool true) ∧ w' = w := by
  go_enter Tryd.func30, Tryd.ntmps30
  go_wp2
  go_loopw [3, 4] (fun kv _ wr => kv = .int .i64 0 ∧ Hid (wr = w)) (fun _ _ _ => 0)
  case atStart => exact ⟨rfl, rfl⟩
  case round =>
    obtain ⟨rfl, hw⟩ := hrel
    go_wp2
    go_loopw [5, 6] (fun gv kv wr => gv = .slice none 0 0 ∧ kv = .int .i64 0 ∧ Hid (wr = w)) (fun _ _ _ => 0)
    case atStart => exact ⟨rfl, rfl, hw⟩
    case round =>
      obtain ⟨rfl, rfl, hw⟩ := hrel
      go_wp2
      go_loopw [9] (fun kv wr => kv = .int .i64 0 ∧ Hid (wr = w)) (fun _ _ => 0)
      case atStart => exact ⟨rfl, hw⟩
      case round =>
        obtain ⟨rfl, hw⟩ := hrel
        go_wp2
        go_ret
        exact ⟨rfl, hw.out⟩

theorem apart0_Texts (w : World) : Calls Tryd.prog 31 #[.slice none 0 0] w fun e w' => e = .returned (.bool true) ∧ w' = w := by
  go_enter Tryd.func31, Tryd.ntmps31
  go_wp2
  go_loopw [3, 4] (fun kv _ wr => kv = .int .i64 0 ∧ Hid (wr = w)) (fun _ _ _ => 0)
  case atStart => exact ⟨rfl, rfl⟩
  case round =>
    obtain ⟨rfl, hw⟩ := hrel
    go_wp2
    go_loopw [5, 6] (fun gv kv wr => gv = .slice none 0 0 ∧ kv = .int .i64 0 ∧ Hid (wr = w)) (fun _ _ _ => 0)
    case atStart => exact ⟨rfl, rfl, hw⟩
    case round =>
      obtain ⟨rfl, rfl, hw⟩ := hrel
      go_wp2
      go_loopw [9] (fun kv wr => kv = .int .i64 0 ∧ Hid (wr = w)) (fun _ _ => 0)
      case atStart => exact ⟨rfl, hw⟩
      case round =>
        obtain ⟨rfl, hw⟩ := hrel
        go_wp2
        go_ret
        exact ⟨rfl, hw.out⟩

theorem apart0_Ints (w : World) : Calls Tryd.prog 32 #[.slice none 0 0] w fun e w' => e = .returned (.bool true) ∧ w' = w := by
  go_enter Tryd.func32, Tryd.ntmps32
  go_wp2
  go_loopw [3, 4] (fun kv _ wr => kv = .int .i64 0 ∧ Hid (wr = w)) (fun _ _ _ => 0)
  case atStart => exact ⟨rfl, rfl⟩
  case round =>
    obtain ⟨rfl, hw⟩ := hrel
    go_wp2
    go_loopw [5, 6] (fun gv kv wr => gv = .slice none 0 0 ∧ kv = .int .i64 0 ∧ Hid (wr = w)) (fun _ _ _ => 0)
    case atStart => exact ⟨rfl, rfl, hw⟩
    case round =>
      obtain ⟨rfl, rfl, hw⟩ := hrel
      go_wp2
      go_loopw [9] (fun kv wr => kv = .int .i64 0 ∧ Hid (wr = w)) (fun _ _ => 0)
      case atStart => exact ⟨rfl, hw⟩
      case round =>
        obtain ⟨rfl, hw⟩ := hrel
        go_wp2
        go_ret
        exact ⟨rfl, hw.out⟩

theorem apart0_Numbers (w : World) : Calls Tryd.prog 33 #[.slice none 0 0] w fun e w' => e = .returned (.bool true) ∧ w' = w := by
  go_enter Tryd.func33, Tryd.ntmps33
  go_wp2
  go_loopw [3, 4] (fun kv _ wr => kv = .int .i64 0 ∧ Hid (wr = w)) (fun _ _ _ => 0)
  case atStart => exact ⟨rfl, rfl⟩
  case round =>
    obtain ⟨rfl, hw⟩ := hrel
    go_wp2
    go_loopw [5, 6] (fun gv kv wr => gv = .slice none 0 0 ∧ kv = .int .i64 0 ∧ Hid (wr = w)) (fun _ _ _ => 0)
    case atStart => exact ⟨rfl, rfl, hw⟩
    case round =>
      obtain ⟨rfl, rfl, hw⟩ := hrel
      go_wp2
      go_loopw [9] (fun kv wr => kv = .int .i64 0 ∧ Hid (wr = w)) (fun _ _ => 0)
      case atStart => exact ⟨rfl, hw⟩
      case round =>
        obtain ⟨rfl, hw⟩ := hrel
        go_wp2
        go_ret
        exact ⟨rfl, hw.out⟩

theorem apart0_Sessions (w : World) : Calls Tryd.prog 34 #[.slice none 0 0] w fun e w' => e = .returned (.bool true) ∧ w' = w := by
  go_enter Tryd.func34, Tryd.ntmps34
  go_wp2
  go_loopw [3, 4] (fun kv _ wr => kv = .int .i64 0 ∧ Hid (wr = w)) (fun _ _ _ => 0)
  case atStart => exact ⟨rfl, rfl⟩
  case round =>
    obtain ⟨rfl, hw⟩ := hrel
    go_wp2
    go_loopw [5, 6] (fun gv kv wr => gv = .slice none 0 0 ∧ kv = .int .i64 0 ∧ Hid (wr = w)) (fun _ _ _ => 0)
    case atStart => exact ⟨rfl, rfl, hw⟩
    case round =>
      obtain ⟨rfl, rfl, hw⟩ := hrel
      go_wp2
      go_loopw [9] (fun kv wr => kv = .int .i64 0 ∧ Hid (wr = w)) (fun _ _ => 0)
      case atStart => exact ⟨rfl, hw⟩
      case round =>
        obtain ⟨rfl, hw⟩ := hrel
        go_wp2
        go_ret
        exact ⟨rfl, hw.out⟩

theorem apart0_Slots (w : World) : Calls Tryd.prog 35 #[.slice none 0 0] w fun e w' => e = .returned (.bool true) ∧ w' = w := by
  go_enter Tryd.func35, Tryd.ntmps35
  go_wp2
  go_loopw [3, 4] (fun kv _ wr => kv = .int .i64 0 ∧ Hid (wr = w)) (fun _ _ _ => 0)
  case atStart => exact ⟨rfl, rfl⟩
  case round =>
    obtain ⟨rfl, hw⟩ := hrel
    go_wp2
    go_loopw [5, 6] (fun gv kv wr => gv = .slice none 0 0 ∧ kv = .int .i64 0 ∧ Hid (wr = w)) (fun _ _ _ => 0)
    case atStart => exact ⟨rfl, rfl, hw⟩
    case round =>
      obtain ⟨rfl, rfl, hw⟩ := hrel
      go_wp2
      go_loopw [9] (fun kv wr => kv = .int .i64 0 ∧ Hid (wr = w)) (fun _ _ => 0)
      case atStart => exact ⟨rfl, hw⟩
      case round =>
        obtain ⟨rfl, hw⟩ := hrel
        go_wp2
        go_ret
        exact ⟨rfl, hw.out⟩

theorem apart0_Links (w : World) : Calls Tryd.prog 36 #[.slice none 0 0] w fun e w' => e = .returned (.bool true) ∧ w' = w := by
  go_enter Tryd.func36, Tryd.ntmps36
  go_wp2
  go_loopw [3, 4] (fun kv _ wr => kv = .int .i64 0 ∧ Hid (wr = w)) (fun _ _ _ => 0)
  case atStart => exact ⟨rfl, rfl⟩
  case round =>
    obtain ⟨rfl, hw⟩ := hrel
    go_wp2
    go_loopw [5, 6] (fun gv kv wr => gv = .slice none 0 0 ∧ kv = .int .i64 0 ∧ Hid (wr = w)) (fun _ _ _ => 0)
    case atStart => exact ⟨rfl, rfl, hw⟩
    case round =>
      obtain ⟨rfl, rfl, hw⟩ := hrel
      go_wp2
      go_loopw [9] (fun kv wr => kv = .int .i64 0 ∧ Hid (wr = w)) (fun _ _ => 0)
      case atStart => exact ⟨rfl, hw⟩
      case round =>
        obtain ⟨rfl, hw⟩ := hrel
        go_wp2
        go_ret
        exact ⟨rfl, hw.out⟩

theorem apart0_Events (w : World) : Calls Tryd.prog 37 #[.slice none 0 0] w fun e w' => e = .returned (.bool true) ∧ w' = w := by
  go_enter Tryd.func37, Tryd.ntmps37
  go_wp2
  go_loopw [3, 4] (fun kv _ wr => kv = .int .i64 0 ∧ Hid (wr = w)) (fun _ _ _ => 0)
  case atStart => exact ⟨rfl, rfl⟩
  case round =>
    obtain ⟨rfl, hw⟩ := hrel
    go_wp2
    go_loopw [5, 6] (fun gv kv wr => gv = .slice none 0 0 ∧ kv = .int .i64 0 ∧ Hid (wr = w)) (fun _ _ _ => 0)
    case atStart => exact ⟨rfl, rfl, hw⟩
    case round =>
      obtain ⟨rfl, rfl, hw⟩ := hrel
      go_wp2
      go_loopw [9] (fun kv wr => kv = .int .i64 0 ∧ Hid (wr = w)) (fun _ _ => 0)
      case atStart => exact ⟨rfl, hw⟩
      case round =>
        obtain ⟨rfl, hw⟩ := hrel
        go_wp2
        go_ret
        exact ⟨rfl, hw.out⟩

theorem apart0_Commands (w : World) : Calls Tryd.prog 39 #[.slice none 0 0] w fun e w' => e = .returned (.bool true) ∧ w' = w := by
  go_enter Tryd.func39, Tryd.ntmps39
  go_wp2
  go_loopw [3, 4] (fun kv _ wr => kv = .int .i64 0 ∧ Hid (wr = w)) (fun _ _ _ => 0)
  case atStart => exact ⟨rfl, rfl⟩
  case round =>
    obtain ⟨rfl, hw⟩ := hrel
    go_wp2
    go_loopw [5, 6] (fun gv kv wr => gv = .slice none 0 0 ∧ kv = .int .i64 0 ∧ Hid (wr = w)) (fun _ _ _ => 0)
    case atStart => exact ⟨rfl, rfl, hw⟩
    case round =>
      obtain ⟨rfl, rfl, hw⟩ := hrel
      go_wp2
      go_loopw [9] (fun kv wr => kv = .int .i64 0 ∧ Hid (wr = w)) (fun _ _ => 0)
      case atStart => exact ⟨rfl, hw⟩
      case round =>
        obtain ⟨rfl, hw⟩ := hrel
        go_wp2
        go_ret
        exact ⟨rfl, hw.out⟩

theorem Bk.ls {w : World} {base gb : Nat} {rv : Value} {vs : List Value} (h : Bk w base gb rv vs) (g cap : Nat) (hr : rv = .slice (some ⟨g, 0, none⟩) vs.length cap) (hb : base ≤ w.heap.size) : ∃ ln f, LsR w base g vs ln f ∧ ApartR g vs ∧ ∀ l, ln l < 900000 := by
  refine ⟨fun l => if hl : l < vs.length then (h.own l hl).choose else 0, fun l => if hl : l < vs.length then (h.own l hl).choose_spec.choose else [], ⟨fun l hl => ?_, fun l hl => ?_, ?_, hb⟩, ⟨h.sep, fun l hl e => ?_⟩, fun l => ?_⟩
  · simp only [hl, dif_pos]
    exact (h.own l hl).choose_spec.choose_spec.2
  · have := h.row
    rw [hr] at this
    exact rows_cell this rfl l hl
  · exact (h.row.lt g (by rw [hr]; rfl)).2
  · exact h.offr l hl g (by rw [hr]; rfl) e
  · by_cases hl : l < vs.length
    · simp only [hl, dif_pos]
      exact (h.own l hl).choose_spec.choose_spec.1
    · simp only [hl, dif_neg, not_false_eq_true]
      decide

theorem apartRows (w : World) (base gb : Nat) (rv : Value) (vs : List Value) (h : Bk w base gb rv vs) (hn : vs.length < 1000000) (hb : base ≤ w.heap.size) :
    Calls Tryd.prog 38 #[rv] w fun e w' => e = .returned (.bool true) ∧ Keep (Wb vs) w w' ∧ Bk w' base gb rv vs := by
  rcases h.row.2 with ⟨hrv, _⟩ | ⟨g, cap, cur, hrv, hbg, hgg, hc1, hc2, _⟩
  · have h2 := h
    rw [hrv]
    refine (apart0_Raws w).mono ?_
    rintro e w' ⟨rfl, rfl⟩
    exact ⟨rfl, Keep.refl _ _, by rw [← hrv]; exact h2⟩
  · obtain ⟨ln, f, hL, hA, hln⟩ := h.ls g cap hrv hb
    have hNew : ∀ w1, Keep (Wb vs) w w1 → (∃ f', LsR w1 base g vs ln f') → Bk w1 base gb rv vs := fun w1 hk ⟨f', hl⟩ =>
      ⟨hk.at h.blk (fun ⟨l, hl, e⟩ => h.offb l hl e), hk.own h.row (fun k hk ⟨l, hl, e⟩ => h.offr l hl k hk e), fun l hl' => ⟨_, _, hln l, hl.own l hl'⟩, h.sep, h.offr, h.offb, h.offg, h.lo⟩
    have c := apartR_l vs ln base g cap f w hL hA hn hln hc1 hc2
    rw [← hrv] at c
    refine c.mono ?_
    rintro e w' ⟨rfl, h1, h2⟩
    exact ⟨rfl, h1, hNew w' h1 h2⟩

set_option maxRecDepth 100000 in
set_option maxHeartbeats 4000000 in
theorem bookApart_any (w : World) (base gb : Nat) (rv : Value) (vs : List Value) (h : Bk w base gb rv vs) (hn : vs.length < 1000000) (hb : base ≤ w.heap.size) :
    Calls Tryd.prog 11 #[.pointer (some ⟨gb, 0, none⟩)] w fun e w' => e = .returned (.bool true) ∧ Keep (Wb vs) w w' ∧ Bk w' base gb rv vs := by
  obtain ⟨k8, kl, k9, kf⟩ := bk_cells h.blk
  obtain ⟨ra, rcp, hrv, hc1, hc2, _⟩ := Nm.own_shape h.row
  have c8 := Hid.mk' (apartRows w base gb rv vs h hn hb)
  have hblk := Hid.mk' h.blk
  have hoff := Hid.mk' h.offb
  subst hrv
  have l0 := kl 0 (by decide)
  have l1 := kl 1 (by decide)
  have l2 := kl 2 (by decide)
  have l3 := kl 3 (by decide)
  have l4 := kl 4 (by decide)
  have l5 := kl 5 (by decide)
  have l6 := kl 6 (by decide)
  have l7 := kl 7 (by decide)
  clear kl k9 kf h
  go_enter Tryd.func11, Tryd.ntmps11
  go_wp2_with fail
  refine (apart0_Bytes _).mono ?_
  rintro e w' ⟨rfl, hw⟩
  subst w'
  go_wp2_with fail
  refine (apart0_Texts _).mono ?_
  rintro e w' ⟨rfl, hw⟩
  subst w'
  go_wp2_with fail
  refine (apart0_Ints _).mono ?_
  rintro e w' ⟨rfl, hw⟩
  subst w'
  go_wp2_with fail
  refine (apart0_Numbers _).mono ?_
  rintro e w' ⟨rfl, hw⟩
  subst w'
  go_wp2_with fail
  refine (apart0_Sessions _).mono ?_
  rintro e w' ⟨rfl, hw⟩
  subst w'
  go_wp2_with fail
  refine (apart0_Slots _).mono ?_
  rintro e w' ⟨rfl, hw⟩
  subst w'
  go_wp2_with fail
  refine (apart0_Links _).mono ?_
  rintro e w' ⟨rfl, hw⟩
  subst w'
  go_wp2_with fail
  refine (apart0_Events _).mono ?_
  rintro e w' ⟨rfl, hw⟩
  subst w'
  go_wp2_with fail
  refine c8.out.mono ?_
  rintro e w1 ⟨rfl, hk1, hl1⟩
  have hBk := Hid.mk' hl1
  clear hl1
  obtain ⟨q8, ql, q9, qf⟩ := bk_cells (hk1.at hblk.out (fun ⟨l, hl, e⟩ => hoff.out l hl e))
  have HK1 := Hid.mk' hk1
  clear hk1 ql qf
  go_wp2_with fail
  refine (apart0_Commands _).mono ?_
  rintro e w' ⟨rfl, hw⟩
  subst w'
  go_wp2
  go_ret
  exact ⟨rfl, HK1.out, hBk.out⟩
end Dk
end Go.Proofs.YtcglehekiibgeaaDoor
