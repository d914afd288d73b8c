/- The walk of ScopeKnown. -/
import Derived.Test.YtmgddocninihoabDoorMany
namespace Go.Proofs.YtmgddocninihoabDoor
set_option linter.ambiguousOpen false
open Go.RowKit Nm Er
namespace Sc
set_option linter.unusedSimpArgs false
set_option linter.unusedVariables false

def goodL : List (List UInt8) := [[109, 97, 105, 108, 46, 42], [42], [], [109, 97, 105, 108, 32, 109, 97, 105, 108], [32, 32, 32]]
def wantL : List Nat := [6, 15, 0, 1, 0]
def wrongL : List (List UInt8) := [[112, 97, 121], [32, 112, 97, 121], [102, 105, 108, 101, 115, 46, 42], [109, 97, 105, 108, 46, 42, 46, 42], [77, 97, 105, 108], [109, 97, 105, 108, 32, 46, 42], [109, 97, 105, 108, 32, 42, 120], [109, 97, 105, 108, 9, 102, 105, 108, 101, 115]]
def noL : List Nat := [10, 10, 10, 4, 4, 4, 4, 4]
def atL : List Nat := [0, 1, 0, 0, 0, 5, 5, 0]
theorem good_parse : ∀ k (h : k < 5), parseG exL 0 (wordsL 0 (goodL[k]'h)) = (wantL[k]'h, 0, 0) := by
  intro k h
  match k, h with
  | 0, _ => exact (show parseG exL 0 (wordsL 0 [109, 97, 105, 108, 46, 42]) = (6, 0, 0) by kernel_rfl)
  | 1, _ => exact (show parseG exL 0 (wordsL 0 [42]) = (15, 0, 0) by kernel_rfl)
  | 2, _ => exact (show parseG exL 0 (wordsL 0 []) = (0, 0, 0) by kernel_rfl)
  | 3, _ => exact (show parseG exL 0 (wordsL 0 [109, 97, 105, 108, 32, 109, 97, 105, 108]) = (1, 0, 0) by kernel_rfl)
  | 4, _ => exact (show parseG exL 0 (wordsL 0 [32, 32, 32]) = (0, 0, 0) by kernel_rfl)
theorem wrong_parse : ∀ k (h : k < 8), parseG exL 0 (wordsL 0 (wrongL[k]'h)) = (0, noL[k]'h, atL[k]'h) := by
  intro k h
  match k, h with
  | 0, _ => exact (show parseG exL 0 (wordsL 0 [112, 97, 121]) = (0, 10, 0) by kernel_rfl)
  | 1, _ => exact (show parseG exL 0 (wordsL 0 [32, 112, 97, 121]) = (0, 10, 1) by kernel_rfl)
  | 2, _ => exact (show parseG exL 0 (wordsL 0 [102, 105, 108, 101, 115, 46, 42]) = (0, 10, 0) by kernel_rfl)
  | 3, _ => exact (show parseG exL 0 (wordsL 0 [109, 97, 105, 108, 46, 42, 46, 42]) = (0, 4, 0) by kernel_rfl)
  | 4, _ => exact (show parseG exL 0 (wordsL 0 [77, 97, 105, 108]) = (0, 4, 0) by kernel_rfl)
  | 5, _ => exact (show parseG exL 0 (wordsL 0 [109, 97, 105, 108, 32, 46, 42]) = (0, 4, 5) by kernel_rfl)
  | 6, _ => exact (show parseG exL 0 (wordsL 0 [109, 97, 105, 108, 32, 42, 120]) = (0, 4, 5) by kernel_rfl)
  | 7, _ => exact (show parseG exL 0 (wordsL 0 [109, 97, 105, 108, 9, 102, 105, 108, 101, 115]) = (0, 4, 0) by kernel_rfl)
theorem good_len : ∀ k (h : k < 5), (goodL[k]'h).length ≤ 4096 := by
  intro k h
  match k, h with
  | 0, _ => exact (show ([109, 97, 105, 108, 46, 42] : List UInt8).length ≤ 4096 by decide)
  | 1, _ => exact (show ([42] : List UInt8).length ≤ 4096 by decide)
  | 2, _ => exact (show ([] : List UInt8).length ≤ 4096 by decide)
  | 3, _ => exact (show ([109, 97, 105, 108, 32, 109, 97, 105, 108] : List UInt8).length ≤ 4096 by decide)
  | 4, _ => exact (show ([32, 32, 32] : List UInt8).length ≤ 4096 by decide)
theorem wrong_len : ∀ k (h : k < 8), (wrongL[k]'h).length ≤ 4096 := by
  intro k h
  match k, h with
  | 0, _ => exact (show ([112, 97, 121] : List UInt8).length ≤ 4096 by decide)
  | 1, _ => exact (show ([32, 112, 97, 121] : List UInt8).length ≤ 4096 by decide)
  | 2, _ => exact (show ([102, 105, 108, 101, 115, 46, 42] : List UInt8).length ≤ 4096 by decide)
  | 3, _ => exact (show ([109, 97, 105, 108, 46, 42, 46, 42] : List UInt8).length ≤ 4096 by decide)
  | 4, _ => exact (show ([77, 97, 105, 108] : List UInt8).length ≤ 4096 by decide)
  | 5, _ => exact (show ([109, 97, 105, 108, 32, 46, 42] : List UInt8).length ≤ 4096 by decide)
  | 6, _ => exact (show ([109, 97, 105, 108, 32, 42, 120] : List UInt8).length ≤ 4096 by decide)
  | 7, _ => exact (show ([109, 97, 105, 108, 9, 102, 105, 108, 101, 115] : List UInt8).length ≤ 4096 by decide)
theorem no_ok : ∀ k (h : k < 8), 1 ≤ noL[k]'h ∧ noL[k]'h ≤ 24 := by
  intro k h
  match k, h with
  | 0, _ => exact (show 1 ≤ 10 ∧ 10 ≤ 24 by decide)
  | 1, _ => exact (show 1 ≤ 10 ∧ 10 ≤ 24 by decide)
  | 2, _ => exact (show 1 ≤ 10 ∧ 10 ≤ 24 by decide)
  | 3, _ => exact (show 1 ≤ 4 ∧ 4 ≤ 24 by decide)
  | 4, _ => exact (show 1 ≤ 4 ∧ 4 ≤ 24 by decide)
  | 5, _ => exact (show 1 ≤ 4 ∧ 4 ≤ 24 by decide)
  | 6, _ => exact (show 1 ≤ 4 ∧ 4 ≤ 24 by decide)
  | 7, _ => exact (show 1 ≤ 4 ∧ 4 ≤ 24 by decide)
theorem want_lt : ∀ k (h : k < 5), wantL[k]'h < 1000 := by
  intro k h
  match k, h with
  | 0, _ => exact (show 6 < 1000 by decide)
  | 1, _ => exact (show 15 < 1000 by decide)
  | 2, _ => exact (show 0 < 1000 by decide)
  | 3, _ => exact (show 1 < 1000 by decide)
  | 4, _ => exact (show 0 < 1000 by decide)

/-- The first table lies at b, its numbers behind. -/
structure Tb1 (W : World) (b : Nat) : Prop where
  tx : ∀ k (h : k < 5), W.cell? ⟨b, k, none⟩ = some (.string (B (goodL[k]'h)))
  nm : ∀ k (h : k < 5), W.cell? ⟨b + 1, k, none⟩ = some (Bt.st (wantL[k]'h))
  lt : b + 1 < W.heap.size
theorem Tb1.kept {W W' : World} {b : Nat} (h : Tb1 W b) (hb : Below W.heap.size W W') : Tb1 W' b :=
  ⟨fun k hk => (hb.cell (p := ⟨b, k, none⟩) (by have := h.lt; show b < _; omega)).trans (h.tx k hk), fun k hk => (hb.cell (p := ⟨b + 1, k, none⟩) h.lt).trans (h.nm k hk), Nat.lt_of_lt_of_le h.lt hb.size⟩
theorem tb1_made (w : World) : Tb1 ((w.alloc (.cells (goodL.map txt).toArray 9)).alloc (.cells (wantL.map fun n : Nat => Bt.st n).toArray 28)) w.heap.size := by
  refine ⟨fun k hk => ?_, fun k hk => ?_, by simp⟩
  · rw [World.cell?_alloc_lt _ _ ⟨w.heap.size, k, none⟩ (by simp)]
    match k, hk with
    | 0, _ => simp [goodL, txt]
    | 1, _ => simp [goodL, txt]
    | 2, _ => simp [goodL, txt]
    | 3, _ => simp [goodL, txt]
    | 4, _ => simp [goodL, txt]
  · rw [World.cell?_alloc_at _ _ _ _ (by simp)]
    match k, hk with
    | 0, _ => simp [wantL]
    | 1, _ => simp [wantL]
    | 2, _ => simp [wantL]
    | 3, _ => simp [wantL]
    | 4, _ => simp [wantL]

/-- The second table lies at b, numbers and places behind. -/
structure Tb2 (W : World) (b : Nat) : Prop where
  tx : ∀ k (h : k < 8), W.cell? ⟨b, k, none⟩ = some (.string (B (wrongL[k]'h)))
  nm : ∀ k (h : k < 8), W.cell? ⟨b + 1, k, none⟩ = some (.int .i64 (noL[k]'h))
  pl : ∀ k (h : k < 8), W.cell? ⟨b + 1 + 1, k, none⟩ = some (.int .i64 (atL[k]'h))
  lt : b + 1 + 1 < W.heap.size
theorem Tb2.kept {W W' : World} {b : Nat} (h : Tb2 W b) (hb : Below W.heap.size W W') : Tb2 W' b :=
  ⟨fun k hk => (hb.cell (p := ⟨b, k, none⟩) (by have := h.lt; show b < _; omega)).trans (h.tx k hk), fun k hk => (hb.cell (p := ⟨b + 1, k, none⟩) (by have := h.lt; show b + 1 < _; omega)).trans (h.nm k hk), fun k hk => (hb.cell (p := ⟨b + 1 + 1, k, none⟩) h.lt).trans (h.pl k hk), Nat.lt_of_lt_of_le h.lt hb.size⟩
theorem tb2_made (w : World) : Tb2 (((w.alloc (.cells (wrongL.map txt).toArray 9)).alloc (.cells (noL.map fun n : Nat => Value.int .i64 n).toArray 3)).alloc (.cells (atL.map fun n : Nat => Value.int .i64 n).toArray 3)) w.heap.size := by
  refine ⟨fun k hk => ?_, fun k hk => ?_, fun k hk => ?_, by simp⟩
  · rw [World.cell?_alloc_lt _ _ ⟨w.heap.size, k, none⟩ (by simp; omega), World.cell?_alloc_lt _ _ ⟨w.heap.size, k, none⟩ (by simp)]
    match k, hk with
    | 0, _ => simp [wrongL, txt]
    | 1, _ => simp [wrongL, txt]
    | 2, _ => simp [wrongL, txt]
    | 3, _ => simp [wrongL, txt]
    | 4, _ => simp [wrongL, txt]
    | 5, _ => simp [wrongL, txt]
    | 6, _ => simp [wrongL, txt]
    | 7, _ => simp [wrongL, txt]
  · rw [World.cell?_alloc_lt _ _ ⟨w.heap.size + 1, k, none⟩ (by simp), World.cell?_alloc_at _ _ _ _ (by simp)]
    match k, hk with
    | 0, _ => simp [noL]
    | 1, _ => simp [noL]
    | 2, _ => simp [noL]
    | 3, _ => simp [noL]
    | 4, _ => simp [noL]
    | 5, _ => simp [noL]
    | 6, _ => simp [noL]
    | 7, _ => simp [noL]
  · rw [World.cell?_alloc_at _ _ _ _ (by simp)]
    match k, hk with
    | 0, _ => simp [atL]
    | 1, _ => simp [atL]
    | 2, _ => simp [atL]
    | 3, _ => simp [atL]
    | 4, _ => simp [atL]
    | 5, _ => simp [atL]
    | 6, _ => simp [atL]
    | 7, _ => simp [atL]

theorem ex_two : newG [] [[109, 97, 105, 108], [109, 97, 105, 108]] = some (9, 1) := by kernel_rfl
theorem ex_dot : newG [] [[109, 97, 105, 108], [97, 46]] = some (8, 1) := by kernel_rfl
theorem rd_two (w : World) (p q : List UInt8) : Rd (w.alloc (.cells #[.string (B p), .string (B q)] 9)) (.slice (some ⟨w.heap.size, 0, none⟩) 2 2) [p, q] := by
  refine ⟨_, 2, rfl, Nat.le_refl _, by unfold maxLen; omega, fun _ => ⟨w.heap.size, 0, rfl, by simp, fun j hj => ?_⟩⟩
  have : j < 2 := hj
  match j, this with
  | 0, _ => simp
  | 1, _ => simp

set_option maxRecDepth 100000 in
set_option maxHeartbeats 4000000 in
theorem scopeKnown_walk (w : World) (hT : Bt.Tab w) (h1 : 1 < w.heap.size) (hE : Handle w) : Calls Tryd.prog 3 #[] w fun e w' => e = .returned (.bool true) ∧ Below w.heap.size w w' := by
  go_enter Tryd.func3, Tryd.ntmps3
  go_wp2_with fail
  refine (book_any w).mono ?_
  rintro e w1 ⟨pb, mb, rfl, hM1, hb1⟩
  obtain ⟨hT1, h11⟩ := tab_below hT h1 hb1
  go_wp2_with fail
  refine (works_any w1 hT1 h11).mono ?_
  rintro e w2 ⟨rfl, hb2⟩
  have hM2 := hM1.kept hb2
  have hB2 := hb1.trans (hb2.mono hb1.size)
  have htb := tb1_made w2
  have hbt : Below w2.heap.size w2 ((w2.alloc (.cells (goodL.map txt).toArray 9)).alloc (.cells (wantL.map fun n : Nat => Bt.st n).toArray 28)) := ((Below.refl _ _).alloc (Nat.le_refl _) _).alloc (by simp) _
  have hMt := hM2.kept hbt
  clear hM1 hb1 hb2
  go_wp2
  go_loopw [5] (fun iv wr => ∃ k : Nat, k ≤ 5 ∧ iv = .int .i64 k ∧ Tb1 wr w2.heap.size ∧ Mp wr pb mb exL ∧ Below w2.heap.size w2 wr) (fun iv _ => 5 - (intOf iv).toNat)
  case atStart => exact ⟨0, by omega, rfl, htb, hMt, hbt⟩
  case round =>
    obtain ⟨k, hk, rfl, htr, hMr, hbr⟩ := hrel
    by_cases hp : k < 5
    · have cp := parse_s pb mb exL (goodL[k]'hp) wr hMr (good_len k hp)
      rw [good_parse k hp] at cp
      have e0 : errP 0 0 = .nilIface := rfl
      rw [e0] at cp
      have hc1 := htr.tx k hp
      have hc2 : Hid (∀ w', Below wr.heap.size wr w' → w'.cell? ⟨w2.heap.size + 1, k, none⟩ = some (Bt.st (wantL[k]'hp))) := fun w' h => (htr.kept h).nm k hp
      generalize B (goodL[k]'hp) = gt at *
      generalize (wantL[k]'hp) = wn at *
      go_wp2_with fail
      refine cp.mono ?_
      rintro e w3 ⟨rfl, hb3⟩
      have hc3 := hc2.out w3 hb3
      go_wp2
      go_roundw
      case rel => exact ⟨k + 1, by omega, by go_num, htr.kept hb3, hMr.kept hb3, hbr.trans (hb3.mono hbr.size)⟩
      case measure => simp [intOf]; omega
    · obtain rfl : k = 5 := by omega
      simp only [Int.cast_ofNat_Int]
      have hB3 := hB2.trans (hbr.mono hB2.size)
      have ht2 := tb2_made wr
      have hb2t : Below wr.heap.size wr (((wr.alloc (.cells (wrongL.map txt).toArray 9)).alloc (.cells (noL.map fun n : Nat => Value.int .i64 n).toArray 3)).alloc (.cells (atL.map fun n : Nat => Value.int .i64 n).toArray 3)) := (((Below.refl _ _).alloc (Nat.le_refl _) _).alloc (by simp) _).alloc (by simp; omega) _
      have hM2t := hMr.kept hb2t
      clear htr hMr hbr htb hMt hbt
      generalize hws : wr = ws at *
      clear hws wr
      go_wp2
      go_loopw [11] (fun iv wr => ∃ k : Nat, k ≤ 8 ∧ iv = .int .i64 k ∧ Tb2 wr ws.heap.size ∧ Mp wr pb mb exL ∧ Below ws.heap.size ws wr) (fun iv _ => 8 - (intOf iv).toNat)
      case atStart => exact ⟨0, by omega, rfl, ht2, hM2t, hb2t⟩
      case round =>
        obtain ⟨k, hk2, rfl, htr, hMr, hbr⟩ := hrel
        by_cases hp2 : k < 8
        · have cp := parse_s pb mb exL (wrongL[k]'hp2) wr hMr (wrong_len k hp2)
          rw [wrong_parse k hp2] at cp
          have hno := no_ok k hp2
          have e1 : errP (noL[k]'hp2) (atL[k]'hp2) = atV (noL[k]'hp2) (atL[k]'hp2) := by unfold errP; rw [if_neg (by omega)]
          dsimp only at cp
          rw [e1] at cp
          have hc1 := htr.tx k hp2
          have CT : Hid (∀ w', Below wr.heap.size wr w' → Tb2 w' ws.heap.size) := fun w' h => htr.kept h
          have CK : Hid (∀ w', Tb2 w' ws.heap.size → w'.cell? ⟨ws.heap.size + 1, k, none⟩ = some (.int .i64 (noL[k]'hp2)) ∧ w'.cell? ⟨ws.heap.size + 1 + 1, k, none⟩ = some (.int .i64 (atL[k]'hp2))) := fun w' h => ⟨h.nm k hp2, h.pl k hp2⟩
          have CA : Hid (∀ w', Handle w' → Calls Tryd.prog 7 #[atV (noL[k]'hp2) (atL[k]'hp2), .int .i64 (noL[k]'hp2), .int .i64 (atL[k]'hp2)] w' fun e w'' => e = .returned (.bool true) ∧ Below w'.heap.size w' w'') := fun w' h => at_at _ _ hno.1 hno.2 w' h
          have hB4 := hB3.trans (hbr.mono hB3.size)
          clear e1 hno
          generalize B (wrongL[k]'hp2) = gt at *
          generalize (noL[k]'hp2) = no at *
          generalize (atL[k]'hp2) = pl at *
          unfold atV at cp CA
          go_wp2_with fail
          refine cp.mono ?_
          rintro e w3 ⟨rfl, hb3⟩
          have ht3 := CT.out w3 hb3
          have hc3 := (CK.out w3 ht3).1
          have hc4 := (CK.out w3 ht3).2
          have hl3 := ht3.lt
          have hB5 := hB4.trans (hb3.mono hB4.size)
          have hM3 := hMr.kept hb3
          have hbr3 := hbr.trans (hb3.mono hbr.size)
          go_wp2
          go_region_held3 (fun w' => w'.cell? ⟨ws.heap.size + 1, k, none⟩ = some (.int .i64 no) ∧ w'.cell? ⟨ws.heap.size + 1 + 1, k, none⟩ = some (.int .i64 pl) ∧ Below w3.heap.size w3 w') (first | assumption | exact ⟨by assumption, by assumption, (Below.refl _ _).drew⟩) (first | (go_at_call 7; refine (CA.out _ (hE.below hB5.drew)).mono ?_; rintro e w4 ⟨rfl, hq4⟩; have hS4 : w4.cell? ⟨ws.heap.size + 1, k, none⟩ = some (.int .i64 no) ∧ w4.cell? ⟨ws.heap.size + 1 + 1, k, none⟩ = some (.int .i64 pl) ∧ Below w3.heap.size w3 w4 := ⟨(hq4.cell (p := ⟨ws.heap.size + 1, k, none⟩) (by show ws.heap.size + 1 < w3.heap.size; omega)).trans hc3, (hq4.cell (p := ⟨ws.heap.size + 1 + 1, k, none⟩) hl3).trans hc4, ⟨hq4.os, hq4.tape, hq4.output, hq4.size, hq4.block⟩⟩))
          go_wp2
          go_roundw
          case rel => exact ⟨k + 1, by omega, by go_num, ht3.kept hS4.2.2, hM3.kept hS4.2.2, hbr3.trans (hS4.2.2.mono hbr3.size)⟩
          case measure => simp [intOf]; omega
        · obtain rfl : k = 8 := by omega
          have hB4 := hB3.trans (hbr.mono hB3.size)
          clear htr ht2 hb2t hM2t
          obtain ⟨hT4, h14⟩ := tab_below hT h1 hB4
          have c0 := print_s pb mb exL 0 wr hMr (by decide) (by decide) hT4 h14
          have ep : printL exL 0 = [] := by kernel_rfl
          rw [ep] at c0
          have C16 : Hid (∀ w', Mp w' pb mb exL → Calls Tryd.prog 8 #[.pointer (some ⟨pb, 0, none⟩), Bt.st 16] w' fun e w'' => e = .returned (.tuple #[.string ⟨#[]⟩, noV 11]) ∧ w'' = w') := fun w' h => print_bad pb mb exL 16 w' h (by decide) (by decide)
          have hzb : ((B []).toList == []) = true := by rw [ByteArray.toList_eq]; rfl
          generalize B [] = em at *
          unfold noV at C16
          go_wp2_with fail
          refine c0.mono ?_
          rintro e w3 ⟨rfl, hb3⟩
          have hM3 := hMr.kept hb3
          have hB5 := hB4.trans (hb3.mono hB4.size)
          go_wp2_with fail
          refine (C16.out w3 hM3).mono ?_
          rintro e w4 ⟨rfl, hq4⟩
          subst w4
          have n1 := new_any _ _ _ (rd_two w3 [109, 97, 105, 108] [109, 97, 105, 108]) (by decide) (by decide)
          have hbA : Below w3.heap.size w3 (w3.alloc (.cells #[.string (B [109, 97, 105, 108]), .string (B [109, 97, 105, 108])] 9)) := (Below.refl _ _).alloc (Nat.le_refl _) _
          go_wp2_with fail
          refine n1.mono ?_
          rintro e w5 ⟨hb5, ⟨h0, _⟩ | ⟨na, ka, h0, rfl⟩⟩
          · rw [ex_two] at h0; cases h0
          rw [ex_two] at h0
          obtain ⟨rfl, rfl⟩ : 9 = na ∧ 1 = ka := by simpa using h0
          have hC5 := hbA.trans (hb5.mono hbA.size)
          have n2 := new_any _ _ _ (rd_two w5 [109, 97, 105, 108] [97, 46]) (by decide) (by decide)
          have hbB : Below w5.heap.size w5 (w5.alloc (.cells #[.string (B [109, 97, 105, 108]), .string (B [97, 46])] 9)) := (Below.refl _ _).alloc (Nat.le_refl _) _
          unfold atV
          go_wp2_with fail
          refine n2.mono ?_
          rintro e w6 ⟨hb6, ⟨h0', _⟩ | ⟨na, ka, h0', rfl⟩⟩
          · rw [ex_dot] at h0'; cases h0'
          rw [ex_dot] at h0'
          obtain ⟨rfl, rfl⟩ : 8 = na ∧ 1 = ka := by simpa using h0'
          have hC6 := hbB.trans (hb6.mono hbB.size)
          have hB6 := (hB5.trans (hC5.mono hB5.size))
          have hB7 := hB6.trans (hC6.mono hB6.size)
          have p1 : Calls Tryd.prog 10 #[noV 11, .int .i64 11] w6 fun e w' => e = .returned (.bool true) ∧ Below w6.heap.size w6 w' := plain_no 11 11 (by decide) (by decide) w6 (hE.below hB7)
          have P2 : Hid (∀ w', Handle w' → Calls Tryd.prog 7 #[atV (9 : Nat) (1 : Nat), .int .i64 9, .int .i64 1] w' fun e w'' => e = .returned (.bool true) ∧ Below w'.heap.size w' w'') := fun w' h => at_at 9 1 (by decide) (by decide) w' h
          have P3 : Hid (∀ w', Handle w' → Calls Tryd.prog 7 #[atV (8 : Nat) (1 : Nat), .int .i64 8, .int .i64 1] w' fun e w'' => e = .returned (.bool true) ∧ Below w'.heap.size w' w'') := fun w' h => at_at 8 1 (by decide) (by decide) w' h
          unfold noV at p1
          unfold atV at P2 P3 ⊢
          go_wp2_with fail
          refine p1.mono ?_
          rintro e w7 ⟨rfl, hb7⟩
          have hB8 := hB7.trans (hb7.mono hB7.size)
          go_wp2_with fail
          refine (P2.out w7 (hE.below hB8)).mono ?_
          rintro e w8 ⟨rfl, hb8⟩
          have hB9 := hB8.trans (hb8.mono hB8.size)
          go_wp2_with fail
          refine (P3.out w8 (hE.below hB9)).mono ?_
          rintro e w9 ⟨rfl, hb9⟩
          have hB10 := hB9.trans (hb9.mono hB9.size)
          go_wp2_with fail
          refine (many_any w9 (hE.below hB10)).mono ?_
          rintro e w10 ⟨rfl, hb10⟩
          go_wp2
          go_ret
          exact ⟨rfl, hB10.trans (hb10.mono hB10.size)⟩
end Sc
end Go.Proofs.YtmgddocninihoabDoor
