/- The document's answer for a word. -/
import Derived.Test.YtmgddocninihoaaDoorRefN
namespace Go.Proofs.YtmgddocninihoaaDoor
set_option linter.ambiguousOpen false
open Go.RowKit Nm Er
namespace Sc
set_option linter.unusedSimpArgs false
set_option linter.unusedVariables false

theorem star_iff (h : List UInt8) : starred h = true ↔ 2 ≤ h.length ∧ h.drop (h.length - 2) = [46, 42] := by
  unfold starred Lib.hasSuffix
  rw [List.isSuffixOf_iff_suffix]
  constructor
  · rintro ⟨a, rfl⟩
    refine ⟨by simp, ?_⟩
    simp
  · rintro ⟨h1, h2⟩
    exact ⟨h.take (h.length - 2), by rw [← h2]; exact List.take_append_drop _ _⟩
theorem bare_star {h : List UInt8} (hs : starred h = true) : bare h = h.take (h.length - 2) := by
  have : Lib.hasSuffix h [46, 42] = true := hs
  simp [bare, Lib.trimSuffix, this]
theorem bare_plain {h : List UInt8} (hs : starred h = false) : bare h = h := by
  have : Lib.hasSuffix h [46, 42] = false := hs
  simp [bare, Lib.trimSuffix, this]
theorem dotted_plain {h : List UInt8} (hd : dottedB h = true) : starred h = false ∧ h ≠ [42] := by
  have hb := dotted_bytes hd
  constructor
  · cases hs : starred h with
    | false => rfl
    | true =>
      have := (star_iff h).1 hs
      have h42 : (42 : UInt8) ∈ h := List.mem_of_mem_drop (i := h.length - 2) (by rw [this.2]; simp)
      exact absurd rfl (ok_ne (hb 42 h42)).2
  · rintro rfl; exact absurd rfl (ok_ne (hb 42 (by simp))).2

/-- The first k names that are h, as a set. -/
def nmT (l : List (List UInt8)) (h : List UInt8) (k : Nat) : Nat := mask (fun i => decide (l.getD i [] = h)) k
/-- The first k names that are below q, as a set. -/
def bwT (l : List (List UInt8)) (q : List UInt8) (k : Nat) : Nat := mask (fun i => decide (l.getD i [] ≠ q) && underB (l.getD i []) q) k

theorem u64_int (k : Nat) (h : k < 64) : IntKind.u64.wrap (k : Int) = (k : Int) := by
  simp only [IntKind.wrap, IntKind.signed, IntKind.bits]
  simp; omega

set_option maxRecDepth 100000 in
set_option maxHeartbeats 4000000 in
theorem rword_s (v : Value) (l : List (List UInt8)) (h : List UInt8) (w : World) (hR : Rd w v l) (h64 : l.length ≤ 64) (hl : h.length ≤ 4096) (hdl : ∀ p ∈ l, dottedB p = true) :
    Calls Tryd.prog 36 #[v, .string (B h)] w fun e w' => e = .returned (.tuple #[Bt.st (readG l h).1, .int .i64 (readG l h).2]) ∧ Below w.heap.size w w' := by
  have cAll := rall_s v l w hR h64
  have HDL : Hid (∀ p ∈ l, dottedB p = true) := hdl
  clear hdl
  obtain ⟨a, cap, rfl, hc, hm, hcell⟩ := hR
  unfold maxLen at hm
  have HC : Hid (0 < l.length → ∃ g o, a = some ⟨g, o, none⟩ ∧ g < w.heap.size ∧ ∀ j (hj : j < l.length), w.cell? ⟨g, o + j, none⟩ = some (.string (B l[j]))) := hcell
  clear hcell
  have hsz : (B h).size = h.length := rfl
  by_cases h42 : h = [42]
  · subst h42
    have e1 : readG l [42] = (allS l.length, 0) := by simp [readG]
    rw [e1]
    have e3 : (B [42]) = ⟨#[42]⟩ := rfl
    rw [e3]
    go_enter Tryd.func36, Tryd.ntmps36
    go_wp2_with fail
    refine cAll.mono ?_
    rintro e w1 ⟨rfl, hq⟩
    subst w1
    go_wp2
    go_ret2
    exact ⟨rfl, Below.refl _ _⟩
  have hne : ((B h).toList == [42]) = false := by
    rw [beq_eq_false_iff_ne, ByteArray.toList_eq]; exact h42
  clear cAll
  have cd := rdotted_l h w (by unfold maxLen; omega)
  cases hd : dottedB h with
  | true =>
    rw [hd] at cd
    obtain ⟨hs, _⟩ := dotted_plain hd
    have HX : Hid (readG l h = if nmT l h l.length = 0 then (0, 10) else (nmT l h l.length, 0)) := by
      show _ = _
      unfold readG
      rw [if_neg h42, bare_plain hs, hd, hs]
      simp [namedS, nmT]
    clear hs hd h42
    go_enter Tryd.func36, Tryd.ntmps36
    go_wp2_with fail
    refine cd.mono ?_
    rintro e w1 ⟨rfl, hb1⟩
    go_wp2_with fail
    go_loopw [6, 7] (fun s i wr => ∃ k : Nat, k ≤ l.length ∧ i = .int .i64 k ∧ s = Bt.st (nmT l h k) ∧ Below w.heap.size w wr) (fun _ i _ => l.length - (intOf i).toNat)
    case atStart => exact ⟨0, Nat.zero_le _, rfl, rfl, hb1⟩
    case round =>
      obtain ⟨k, hk, rfl, rfl, hb⟩ := hrel
      have hmk : nmT l h k < 18446744073709551616 := mask_lt _ _ (by omega)
      by_cases hp : k < l.length
      · obtain ⟨g, o, rfl, hgl, hcj⟩ := HC.out (Nat.lt_of_le_of_lt (Nat.zero_le _) hp)
        have hck : wr.cell? ⟨g, o + k, none⟩ = some (.string (B l[k])) := (hb.cell (p := ⟨g, o + k, none⟩) hgl).trans (hcj k hp)
        clear hcj
        have hstep : nmT l h (k + 1) = nmT l h k ||| (if decide (l[k] = h) then Bt.pw k else 0) := by
          show mask _ (k + 1) = _
          rw [mask, getD_at l k hp]; rfl
        by_cases he : l[k] = h
        · have HS : Hid (nmT l h (k + 1) = nmT l h k ||| Bt.pw k) := by
            show _ = _
            rw [hstep]; simp [he]
          rw [he] at hck
          have kp := Bt.pow_wrap k (by omega)
          have ko := u64_or_nat (nmT l h k) (Bt.pw k) hmk (Bt.pow_lt k (by omega))
          clear hstep he
          generalize B h = x at *
          go_wp2_with (first | (simp only [kp]) | (simp only [ko]) | fail)
          go_roundw
          case rel => exact ⟨k + 1, by omega, by go_num, by rw [HS.out], hb⟩
          case measure => simp [intOf]; omega
        · have HS : Hid (nmT l h (k + 1) = nmT l h k) := by
            show _ = _
            rw [hstep]; simp [he]
          have hne2 : ((B l[k]).toList == (B h).toList) = false := by
            rw [beq_eq_false_iff_ne, ByteArray.toList_eq, ByteArray.toList_eq]; exact he
          clear hstep he
          generalize B h = x at *
          generalize B l[k] = y at *
          go_wp2
          go_roundw
          case rel => exact ⟨k + 1, by omega, by go_num, by rw [HS.out], hb⟩
          case measure => simp [intOf]; omega
      · obtain rfl : k = l.length := by omega
        generalize hX : nmT l h l.length = X at *
        by_cases hz : X = 0
        · subst hz
          go_wp2
          go_ret2
          rw [HX.out]
          exact ⟨rfl, hb⟩
        · have hzb : ((X : Int) == 0) = false := by rw [beq_eq_false_iff_ne]; omega
          rw [if_neg hz] at HX
          go_wp2
          go_ret2
          rw [HX.out]
          exact ⟨rfl, hb⟩
  | false =>
    rw [hd] at cd
    cases hs : starred h with
    | false =>
      have HX : Hid (readG l h = (0, 4)) := by
        show _ = _
        unfold readG
        rw [if_neg h42, bare_plain hs, hd]; simp
      rcases Nat.lt_or_ge h.length 2 with hlt | hge
      · clear hs hd h42
        go_enter Tryd.func36, Tryd.ntmps36
        go_wp2_with fail
        refine cd.mono ?_
        rintro e w1 ⟨rfl, hb1⟩
        go_wp2
        go_ret2
        rw [HX.out]
        exact ⟨rfl, hb1⟩
      · have hx : (B h).extract (h.length - 2) h.length = B (h.drop (h.length - 2)) := extract_last h (h.length - 2)
        have hne3 : ((B (h.drop (h.length - 2))).toList == [46, 42]) = false := by
          rw [beq_eq_false_iff_ne, ByteArray.toList_eq]
          intro e
          have := (star_iff h).2 ⟨hge, e⟩
          rw [hs] at this; cases this
        have hn2 : ((h.length : Int) - 2).toNat = h.length - 2 := by omega
        clear hs hd h42
        go_enter Tryd.func36, Tryd.ntmps36
        go_wp2_with fail
        refine cd.mono ?_
        rintro e w1 ⟨rfl, hb1⟩
        go_wp2_with (first | (simp only [hn2]) | (simp only [hx]) | fail)
        go_ret2
        rw [HX.out]
        exact ⟨rfl, hb1⟩
    | true =>
      obtain ⟨hge, hdr⟩ := (star_iff h).1 hs
      have hbr := bare_star hs
      have hx : (B h).extract (h.length - 2) h.length = B (h.drop (h.length - 2)) := extract_last h (h.length - 2)
      rw [hdr] at hx
      have heq : ((B [46, 42]).toList == [46, 42]) = true := by rw [ByteArray.toList_eq]; rfl
      have hx2 : (B h).extract 0 (h.length - 2) = B (h.take (h.length - 2)) := by rw [extract_mid]; simp
      have hql : (h.take (h.length - 2)).length ≤ 4096 := by rw [List.length_take]; omega
      have HX0 : Hid (readG l h = if dottedB (h.take (h.length - 2)) = false then (0, 4) else if bwT l (h.take (h.length - 2)) l.length = 0 then (0, 10) else (bwT l (h.take (h.length - 2)) l.length, 0)) := by
        show _ = _
        unfold readG
        rw [if_neg h42, hbr, hs]
        simp [belowS, bwT]
      have hn2 : ((h.length : Int) - 2).toNat = h.length - 2 := by omega
      clear hs hd h42 hbr hdr
      generalize h.take (h.length - 2) = q at *
      have cd2 : Hid (∀ w1, Calls Tryd.prog 30 #[.string (B q)] w1 fun e w' => e = .returned (.bool (dottedB q)) ∧ Below w1.heap.size w1 w') := fun w1 => rdotted_l q w1 (by unfold maxLen; omega)
      generalize B [46, 42] = star at *
      cases hq : dottedB q with
      | false =>
        rw [hq] at cd2 HX0
        simp only [if_true] at HX0
        clear hq
        go_enter Tryd.func36, Tryd.ntmps36
        go_wp2_with fail
        refine cd.mono ?_
        rintro e w1 ⟨rfl, hb1⟩
        go_wp2_with (first | (simp only [hn2]) | (simp only [hx]) | (simp only [hx2]) | fail)
        refine (cd2.out _).mono ?_
        rintro e w2 ⟨rfl, hb2⟩
        go_wp2
        go_ret2
        rw [HX0.out]
        exact ⟨rfl, hb1.trans (hb2.mono hb1.size)⟩
      | true =>
        rw [hq] at cd2 HX0
        simp only [Bool.true_eq_false, if_false] at HX0
        clear hq
        have CU : Hid (∀ (p : List UInt8) (w1 : World), p.length ≤ 131 → Calls Tryd.prog 56 #[.string (B p), .string (B q)] w1 fun e w' => e = .returned (.bool (underB p q)) ∧ Below w1.heap.size w1 w') := fun p w1 hp => runder_l p q w1 (by unfold maxLen; omega) (by unfold maxLen; omega)
        go_enter Tryd.func36, Tryd.ntmps36
        go_wp2_with fail
        refine cd.mono ?_
        rintro e w1 ⟨rfl, hb1⟩
        go_wp2_with (first | (simp only [hn2]) | (simp only [hx]) | (simp only [hx2]) | fail)
        refine (cd2.out _).mono ?_
        rintro e w2 ⟨rfl, hb2⟩
        have hB2 := hb1.trans (hb2.mono hb1.size)
        go_wp2_with fail
        rename World => wOld2
        go_loopw [6, 9] (fun s i wr => ∃ k : Nat, k ≤ l.length ∧ i = .int .i64 k ∧ s = Bt.st (bwT l q k) ∧ Below w.heap.size w wr) (fun _ i _ => l.length - (intOf i).toNat)
        case atStart => exact ⟨0, Nat.zero_le _, rfl, rfl, hB2⟩
        case round =>
          obtain ⟨k, hk, rfl, rfl, hb⟩ := hrel
          have hmk : bwT l q k < 18446744073709551616 := mask_lt _ _ (by omega)
          by_cases hp : k < l.length
          · obtain ⟨g, o, rfl, hgl, hcj⟩ := HC.out (Nat.lt_of_le_of_lt (Nat.zero_le _) hp)
            have hck : wr.cell? ⟨g, o + k, none⟩ = some (.string (B l[k])) := (hb.cell (p := ⟨g, o + k, none⟩) hgl).trans (hcj k hp)
            clear hcj
            have hstep : bwT l q (k + 1) = bwT l q k ||| (if (decide (l[k] ≠ q) && underB l[k] q) then Bt.pw k else 0) := by
              show mask _ (k + 1) = _
              rw [mask, getD_at l k hp]; rfl
            have cu : Hid (∀ w1, Calls Tryd.prog 56 #[.string (B l[k]), .string (B q)] w1 fun e w' => e = .returned (.bool (underB l[k] q)) ∧ Below w1.heap.size w1 w') := fun w1 => CU.out l[k] w1 (dotted_len (HDL.out _ (List.getElem_mem hp)))
            have hgs : g < wr.heap.size := Nat.lt_of_lt_of_le hgl hb.size
            by_cases he : l[k] = q
            · have HS : Hid (bwT l q (k + 1) = bwT l q k) := by
                show _ = _
                rw [hstep]; simp [he]
              rw [he] at hck
              clear hstep he cu
              generalize B q = x at *
              go_wp2
              go_quiet (fail)
              go_wp2
              go_roundw
              case rel => exact ⟨k + 1, by omega, by go_num, by rw [HS.out], below_drewN hb⟩
              case measure => simp [intOf]; omega
            · have hne3 : ((B l[k]).toList == (B q).toList) = false := by
                rw [beq_eq_false_iff_ne, ByteArray.toList_eq, ByteArray.toList_eq]; exact he
              have kp := Bt.pow_wrap k (by omega)
              have ko := u64_or_nat (bwT l q k) (Bt.pw k) hmk (Bt.pow_lt k (by omega))
              cases hu : underB l[k] q with
              | true =>
                have HS : Hid (bwT l q (k + 1) = bwT l q k ||| Bt.pw k) := by
                  show _ = _
                  rw [hstep]; simp [he, hu]
                rw [hu] at cu
                clear hstep he hu
                generalize B l[k] = y at *
                generalize B q = x at *
                go_wp2
                go_region_held3 (fun w' => w'.cell? ⟨g, o + k, none⟩ = some (.string y) ∧ Below w.heap.size w w') (first | assumption | exact ⟨by assumption, hb.drew⟩) (first | (go_at_call 56; refine (cu.out _).mono ?_; rintro e w3 ⟨rfl, hq3⟩; have hS3 : w3.cell? ⟨g, o + k, none⟩ = some (.string y) ∧ Below w.heap.size w w3 := ⟨(hq3.cell (p := ⟨g, o + k, none⟩) hgs).trans hck, hb.drew.trans (hq3.mono hb.size)⟩))
                go_wp2_with (first | (simp only [kp]) | (simp only [ko]) | fail)
                go_roundw
                case rel => exact ⟨k + 1, by omega, by go_num, by rw [HS.out], hS3.2⟩
                case measure => simp [intOf]; omega
              | false =>
                have HS : Hid (bwT l q (k + 1) = bwT l q k) := by
                  show _ = _
                  rw [hstep]; simp [he, hu]
                rw [hu] at cu
                clear hstep he hu
                generalize B l[k] = y at *
                generalize B q = x at *
                go_wp2
                go_region_held3 (fun w' => w'.cell? ⟨g, o + k, none⟩ = some (.string y) ∧ Below w.heap.size w w') (first | assumption | exact ⟨by assumption, hb.drew⟩) (first | (go_at_call 56; refine (cu.out _).mono ?_; rintro e w3 ⟨rfl, hq3⟩; have hS3 : w3.cell? ⟨g, o + k, none⟩ = some (.string y) ∧ Below w.heap.size w w3 := ⟨(hq3.cell (p := ⟨g, o + k, none⟩) hgs).trans hck, hb.drew.trans (hq3.mono hb.size)⟩))
                go_wp2
                go_roundw
                case rel => exact ⟨k + 1, by omega, by go_num, by rw [HS.out], hS3.2⟩
                case measure => simp [intOf]; omega
          · obtain rfl : k = l.length := by omega
            generalize hX : bwT l q l.length = X at *
            by_cases hz : X = 0
            · subst hz
              go_wp2
              go_ret2
              rw [HX0.out]
              exact ⟨rfl, hb⟩
            · have hzb : ((X : Int) == 0) = false := by rw [beq_eq_false_iff_ne]; omega
              rw [if_neg hz] at HX0
              go_wp2
              go_ret2
              rw [HX0.out]
              exact ⟨rfl, hb⟩
end Sc
end Go.Proofs.YtmgddocninihoaaDoor
