/- The walk of ScopeBelow. -/
import Derived.Test.YtmgddocninihoaaDoorRefW
import Derived.Test.YtmgddocninihoaaDoorPick
import Derived.Test.YtmgddocninihoaaDoorPlace
namespace Go.Proofs.YtmgddocninihoaaDoor
set_option linter.ambiguousOpen false
open Go.RowKit Nm Er
namespace Sc
set_option linter.unusedSimpArgs false
set_option linter.unusedVariables false

theorem parse_star (l : List (List UInt8)) : parseG l 0 (wordsL 0 [42]) = (allS l.length, 0, 0) := by
  have e : wordsL 0 [42] = [(0, [42])] := by decide
  rw [e]
  simp [parseG, readG]

theorem parse_name {l : List (List UInt8)} (hn : l.Nodup) (hd : ∀ p ∈ l, dottedB p = true) (h64 : l.length ≤ 64) {i : Nat} (hi : i < l.length) : parseG l 0 (wordsL 0 l[i]) = (Bt.pw i, 0, 0) := by
  have := parse_names hn hd h64 [] i 0 0 hi (by simp)
  rw [getD_at l i hi] at this
  simpa [tailP, setN] using this

theorem read_star {l : List (List UInt8)} {p : List UInt8} (hd : dottedB p = true) : readG l (p ++ [46, 42]) = if belowS l p = 0 then (0, 10) else (belowS l p, 0) := by
  have hs : starred (p ++ [46, 42]) = true := by unfold starred Lib.hasSuffix; rw [List.isSuffixOf_iff_suffix]; exact ⟨p, rfl⟩
  have hb : bare (p ++ [46, 42]) = p := by rw [bare_star hs]; simp
  have h0 : p ++ [46, 42] ≠ [42] := by
    intro e
    have := congrArg List.length e
    simp at this
  unfold readG
  rw [if_neg h0, hb, hd, hs]
  simp

theorem parse_below {l : List (List UInt8)} {p : List UInt8} (hd : dottedB p = true) : parseG l 0 (wordsL 0 (p ++ [46, 42])) = if belowS l p = 0 then (0, 10, 0) else (belowS l p, 0, 0) := by
  have hby := dotted_bytes hd
  have hall : ∀ x ∈ p ++ [46, 42], (x != 32) = true := fun x hx => by
    rcases List.mem_append.1 hx with h | h
    · have := (ok_ne (hby x h)).1; simpa using this
    · simp at h; rcases h with rfl | rfl <;> decide
  have hh : hb (p ++ [46, 42]) = p ++ [46, 42] := by
    have := List.takeWhile_append_of_pos (l₂ := []) hall
    simpa [Sc.hb] using this
  have e : wordsL 0 (p ++ [46, 42]) = [(0, p ++ [46, 42])] := by
    rw [wordsL_step 0 _ (by simp), hh, if_neg (by simp)]
    have : (p ++ [46, 42]).drop ((p ++ [46, 42]).length + 1) = [] := List.drop_eq_nil_of_le (by omega)
    rw [this, wordsL_nil]; rfl
  rw [e]
  simp only [parseG, read_star hd]
  by_cases hz : belowS l p = 0
  · simp [hz]
  · simp [hz]

/-- Below the k-th name, as the law reckons it. -/
def wantT (l : List (List UInt8)) (k n : Nat) : Nat := mask (fun i => decide (i ≠ k) && underB (l.getD i []) (l.getD k [])) n
theorem want_below {l : List (List UInt8)} (hn : l.Nodup) {k : Nat} (hk : k < l.length) : wantT l k l.length = belowS l l[k] := by
  refine mask_congr fun i hi => ?_
  rw [getD_at l i hi, getD_at l k hk]
  by_cases h : i = k
  · subst h; simp
  · have := nodup_ne hn hi hk h
    simp [h, this]
theorem cat_star (p : List UInt8) : B p ++ ⟨#[46, 42]⟩ = B (p ++ [46, 42]) := cat_l p [46, 42]
set_option maxRecDepth 1000000 in
set_option maxHeartbeats 2000000 in
theorem scopeBelow_walk (v : Value) (l : List (List UInt8)) (i : Int) (w : World) (hR : Rd w v l) (hlen : ∀ p ∈ l, p.length ≤ maxLen) (hi : -9223372036854775808 ≤ i ∧ i ≤ 9223372036854775807) (hT : Bt.Tab w) (h1 : 1 < w.heap.size) (hE : Handle w) :
    Calls Tryd.prog 8 #[v, .int .i64 i] w fun e w' => e = .returned (.bool true) ∧ Below w.heap.size w w' := by
  have HLEN : Hid (∀ p ∈ l, p.length ≤ maxLen) := hlen
  clear hlen
  go_enter Tryd.func8, Tryd.ntmps8
  go_wp2_with fail
  refine (works_any w hT h1).mono ?_
  rintro e w1 ⟨rfl, hb1⟩
  go_wp2_with fail
  by_cases hl : 64 < l.length
  · refine (new_many v l w1 (hR.below hb1) hl).mono ?_
    rintro e w2 ⟨rfl, rfl⟩
    unfold noV
    go_wp2
    go_ret
    exact ⟨rfl, hb1⟩
  refine (new_any v l w1 (hR.below hb1) (by omega) HLEN.out).mono ?_
  rintro e w2 ⟨hb2, ⟨_, pb, mb, _, _, rfl, hM⟩ | ⟨n, k, _, rfl⟩⟩
  rotate_left
  · unfold atV
    go_wp2
    go_ret
    exact ⟨rfl, hb1.trans (hb2.mono hb1.size)⟩
  have hB2 := hb1.trans (hb2.mono hb1.size)
  clear hb2 hb1 hl
  have h64 := hM.most
  obtain ⟨hnd, hdt⟩ := hM.facts
  have HND : Hid (l.Nodup) := hnd
  have HDT : Hid (∀ p ∈ l, dottedB p = true) := hdt
  clear hnd hdt
  have hR2 := hR.below hB2
  obtain ⟨a, cap, rfl, hc, hm, hcell⟩ := hR2
  unfold maxLen at hm
  have HC : Hid (0 < l.length → ∃ g o, a = some ⟨g, o, none⟩ ∧ g < w2.heap.size ∧ ∀ j (hj : j < l.length), w2.cell? ⟨g, o + j, none⟩ = some (.string (B l[j]))) := hcell
  clear hcell hR
  have c1 := parse_s pb mb l [42] w2 hM (by decide)
  rw [parse_star] at c1
  have e0 : errP 0 0 = .nilIface := rfl
  rw [e0] at c1
  have CA : Hid (∀ w', Mp w' pb mb l → Calls Tryd.prog 16 #[.pointer (some ⟨pb, 0, none⟩)] w' fun e w'' => e = .returned (Bt.st (allS l.length)) ∧ w'' = w') := fun w' h => all_s pb mb l w' h
  go_wp2_with fail
  refine c1.mono ?_
  rintro e w3 ⟨rfl, hb3⟩
  have hM3 := hM.kept hb3
  have hB3 := hB2.trans (hb3.mono hB2.size)
  go_wp2_with fail
  refine (CA.out _ hM3).mono ?_
  rintro e w4 ⟨rfl, hq⟩
  subst w4
  by_cases hz : l.length = 0
  · have hzb : ((l.length : Int) == 0) = true := by rw [beq_iff_eq]; omega
    have HZ : Hid (l.length = 0) := hz
    clear hz
    go_wp2_with fail
    refine (CA.out _ hM3).mono ?_
    rintro e w4 ⟨rfl, hq⟩
    subst w4
    go_wp2
    go_ret
    exact ⟨rfl, hB3⟩
  have hzb : ((l.length : Int) == 0) = false := by rw [beq_eq_false_iff_ne]; omega
  have cp := Bt.pick_any i l.length w3 (by omega) (by omega) hi
  obtain ⟨k, hk⟩ := Int.eq_ofNat_of_zero_le (Int.emod_nonneg i (b := (l.length : Int)) (by omega))
  have hkl : k < l.length := by have := Int.emod_lt_of_pos i (b := (l.length : Int)) (by omega); omega
  rw [hk] at cp
  clear hk
  obtain ⟨g, o, rfl, hgl, hcj⟩ := HC.out (by omega)
  have HCJ : Hid (∀ j (hj : j < l.length), w2.cell? ⟨g, o + j, none⟩ = some (.string (B l[j]))) := hcj
  clear hcj HC
  have hc3 : w3.cell? ⟨g, o + k, none⟩ = some (.string (B l[k])) := (hb3.cell (p := ⟨g, o + k, none⟩) hgl).trans (HCJ.out k hkl)
  have hpd := HDT.out _ (List.getElem_mem hkl)
  have h131 := dotted_len hpd
  have cq := parse_s pb mb l l[k] w3 hM3 (by omega)
  rw [parse_name HND.out HDT.out h64 hkl, e0] at cq
  go_wp2_with fail
  refine cp.mono ?_
  rintro e w4 ⟨rfl, hq⟩
  subst w4
  go_wp2_with fail
  refine cq.mono ?_
  rintro e w4 ⟨rfl, hb4⟩
  have hM4 := hM3.kept hb4
  have hB4 := hB3.trans (hb4.mono hB3.size)
  have hC4 := hb3.trans (hb4.mono hb3.size)
  have kp := Bt.pow_wrap k (by omega)
  clear hc3
  go_wp2_with (first | (simp only [kp]) | fail)
  have HW : Hid (wantT l k l.length = belowS l l[k]) := want_below HND.out hkl
  have hcat := cat_star l[k]
  have CB : Hid (∀ w', Mp w' pb mb l → Calls Tryd.prog 20 #[.pointer (some ⟨pb, 0, none⟩), .string (B (l[k] ++ [46, 42]))] w' fun e w'' => e = .returned (.tuple #[Bt.st (if belowS l l[k] = 0 then (0, 10, 0) else (belowS l l[k], 0, 0) : Nat × Nat × Nat).1, errP (if belowS l l[k] = 0 then (0, 10, 0) else (belowS l l[k], 0, 0) : Nat × Nat × Nat).2.1 (if belowS l l[k] = 0 then (0, 10, 0) else (belowS l l[k], 0, 0) : Nat × Nat × Nat).2.2]) ∧ Below w'.heap.size w' w'') := fun w' h => by
    have := parse_s pb mb l (l[k] ++ [46, 42]) w' h (by rw [List.length_append]; simp; omega)
    rw [parse_below hpd] at this
    exact this
  have hgl4 : g < w4.heap.size := Nat.lt_of_lt_of_le hgl hC4.size
  have HK : Hid (∀ w', Below w4.heap.size w4 w' → ∀ j (hj : j < l.length), w'.cell? ⟨g, o + j, none⟩ = some (.string (B l[j]))) := fun w' h j hj => (h.cell (p := ⟨g, o + j, none⟩) hgl4).trans ((hC4.cell (p := ⟨g, o + j, none⟩) hgl).trans (HCJ.out j hj))
  have HM4 : Hid (∀ w', Below w4.heap.size w4 w' → Mp w' pb mb l) := fun w' h => hM4.kept h
  have CU : Hid (∀ (n : Nat) (hn : n < l.length) (w' : World), Calls Tryd.prog 29 #[.string (B l[n]), .string (B l[k])] w' fun e w'' => e = .returned (.bool (underB l[n] l[k])) ∧ Below w'.heap.size w' w'') := fun n hn w' => under_l l[n] l[k] w' (by have := dotted_len (HDT.out _ (List.getElem_mem hn)); unfold maxLen; omega) (by unfold maxLen; omega)
  clear hpd c1 cq cp hM hM3 hM4 CA
  generalize hw4 : w4 = wOld at *
  clear hw4 w4
  go_loopw [10, 11] (fun s i wr => ∃ n : Nat, n ≤ l.length ∧ i = .int .i64 n ∧ s = Bt.st (wantT l k n) ∧ Below wOld.heap.size wOld wr) (fun _ i _ => l.length - (intOf i).toNat)
  case atStart => exact ⟨0, Nat.zero_le _, rfl, rfl, Below.refl _ _⟩
  case round =>
    obtain ⟨n, hn, rfl, rfl, hb⟩ := hrel
    have hmk : wantT l k n < 18446744073709551616 := mask_lt _ _ (by omega)
    by_cases hp : n < l.length
    · have hstep : wantT l k (n + 1) = wantT l k n ||| (if (decide (n ≠ k) && underB l[n] l[k]) then Bt.pw n else 0) := by
        unfold wantT
        rw [mask]
        simp only [getD_at l n hp, getD_at l k hkl]
      by_cases he : n = k
      · have HS : Hid (wantT l k (n + 1) = wantT l k n) := by
          show _ = _
          rw [hstep]; simp [he]
        have hnk : ((n : Int) != (k : Int)) = false := by rw [bne_eq_false_iff_eq]; omega
        clear hstep he
        go_wp2
        go_quiet (fail)
        go_wp2
        go_roundw
        case rel => exact ⟨n + 1, by omega, by go_num, by rw [HS.out], ⟨hb.os, hb.tape, hb.output, hb.size, hb.block⟩⟩
        case measure => simp [intOf]; omega
      · have hnk : ((n : Int) != (k : Int)) = true := by rw [bne_iff_ne]; omega
        have hcn := HK.out wr hb n hp
        have hck := HK.out wr hb k hkl
        have cu : Hid (∀ w', Calls Tryd.prog 29 #[.string (B l[n]), .string (B l[k])] w' fun e w'' => e = .returned (.bool (underB l[n] l[k])) ∧ Below w'.heap.size w' w'') := fun w' => CU.out n hp w'
        have hgr : g < wr.heap.size := Nat.lt_of_lt_of_le hgl4 hb.size
        have kn := Bt.pow_wrap n (by omega)
        have ko := u64_or_nat (wantT l k n) (Bt.pw n) hmk (Bt.pow_lt n (by omega))
        clear CB CU HK hcat
        cases hu : underB l[n] l[k] with
        | true =>
          have HS : Hid (wantT l k (n + 1) = wantT l k n ||| Bt.pw n) := by
            show _ = _
            rw [hstep]; simp [he, hu]
          rw [hu] at cu
          clear hstep he hu
          generalize B l[n] = y at *
          generalize B l[k] = x at *
          go_wp2
          go_region_held3 (fun w' => w'.cell? ⟨g, o + n, none⟩ = some (.string y) ∧ w'.cell? ⟨g, o + k, none⟩ = some (.string x) ∧ Below wOld.heap.size wOld w') (first | assumption | exact ⟨by assumption, by assumption, hb.drew⟩) (first | (go_at_call 29; refine (cu.out _).mono ?_; rintro e w3 ⟨rfl, hq3⟩; have hS3 : w3.cell? ⟨g, o + n, none⟩ = some (.string y) ∧ w3.cell? ⟨g, o + k, none⟩ = some (.string x) ∧ Below wOld.heap.size wOld w3 := ⟨(hq3.cell (p := ⟨g, o + n, none⟩) hgr).trans hcn, (hq3.cell (p := ⟨g, o + k, none⟩) hgr).trans hck, hb.drew.trans (hq3.mono hb.size)⟩))
          go_wp2_with (first | (simp only [kn]) | (simp only [ko]) | fail)
          go_roundw
          case rel => exact ⟨n + 1, by omega, by go_num, by rw [HS.out], hS3.2.2⟩
          case measure => simp [intOf]; omega
        | false =>
          have HS : Hid (wantT l k (n + 1) = wantT l k n) := by
            show _ = _
            rw [hstep]; simp [he, hu]
          rw [hu] at cu
          clear hstep he hu
          generalize B l[n] = y at *
          generalize B l[k] = x at *
          go_wp2
          go_region_held3 (fun w' => w'.cell? ⟨g, o + n, none⟩ = some (.string y) ∧ w'.cell? ⟨g, o + k, none⟩ = some (.string x) ∧ Below wOld.heap.size wOld w') (first | assumption | exact ⟨by assumption, by assumption, hb.drew⟩) (first | (go_at_call 29; refine (cu.out _).mono ?_; rintro e w3 ⟨rfl, hq3⟩; have hS3 : w3.cell? ⟨g, o + n, none⟩ = some (.string y) ∧ w3.cell? ⟨g, o + k, none⟩ = some (.string x) ∧ Below wOld.heap.size wOld w3 := ⟨(hq3.cell (p := ⟨g, o + n, none⟩) hgr).trans hcn, (hq3.cell (p := ⟨g, o + k, none⟩) hgr).trans hck, hb.drew.trans (hq3.mono hb.size)⟩))
          go_wp2
          go_roundw
          case rel => exact ⟨n + 1, by omega, by go_num, by rw [HS.out], hS3.2.2⟩
          case measure => simp [intOf]; omega
    · obtain rfl : n = l.length := by omega
      have hck := HK.out wr hb k hkl
      have cb := CB.out wr (HM4.out wr hb)
      have hBr := hB4.trans (hb.mono hB4.size)
      rw [HW.out] at hmk ⊢
      clear HK CB CU HW HCJ
      have hszk : (B l[k]).size ≤ 131 := h131
      generalize hX : belowS l l[k] = X at *
      clear hX
      by_cases hX0 : X = 0
      · subst hX0
        simp only [if_true] at cb
        have e1 : errP 10 0 = atV 10 0 := rfl
        rw [e1] at cb
        have cA : Hid (∀ w1, Handle w1 → Calls Tryd.prog 27 #[atV 10 0, .int .i64 10, .int .i64 0] w1 fun e w' => e = .returned (.bool true) ∧ Below w1.heap.size w1 w') := fun w1 h => at_at 10 0 (by decide) (by decide) w1 h
        unfold atV at cA cb
        go_wp2_with (first | (simp only [hcat]) | fail)
        refine cb.mono ?_
        rintro e w5 ⟨rfl, hb5⟩
        have hB5 := hBr.trans (hb5.mono hBr.size)
        go_wp2_with fail
        refine (cA.out _ (hE.below hB5)).mono ?_
        rintro e w6 ⟨rfl, hb6⟩
        go_wp2
        go_ret
        exact ⟨rfl, hB5.trans (hb6.mono hB5.size)⟩
      · simp only [if_neg hX0] at cb
        rw [e0] at cb
        have hXb : ((X : Int) == 0) = false := by rw [beq_eq_false_iff_ne]; omega
        go_wp2_with (first | (simp only [hcat]) | fail)
        refine cb.mono ?_
        rintro e w5 ⟨rfl, hb5⟩
        go_wp2
        go_ret
        exact ⟨rfl, hBr.trans (hb5.mono hBr.size)⟩
end Sc
end Go.Proofs.YtmgddocninihoaaDoor
