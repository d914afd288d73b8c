import Derived.Test.YtnllplholfhbdaaDoorOwnY
/- ApartBytes answers true of lists that lie in blocks of their own, and turns nothing else. -/
namespace Go.Proofs.YtnllplholfhbdaaDoor
set_option linter.ambiguousOpen false
open Go.RowKit
namespace Pk
open Sm Ft
set_option linter.unusedSimpArgs false
set_option linter.unusedVariables false

theorem markY_any (k i : Nat) (hk : k < 1000000) (hi : i < 1099511627776) (w : World) :
    Calls Tryd.prog 31 #[nu k, nu i] w fun e w' => e = .returned ((Value.int .u8 (mkI k i))) ∧ Below w.heap.size w w' := by
  unfold mkI
  go_enter Tryd.func31, Tryd.ntmps31
  go_wp2
  go_ret
  exact ⟨rfl, Below.refl _ _⟩

theorem markY_at (k i : Int) (k' i' : Nat) (ek : k = k') (ei : i = i') (hk : k' < 1000000) (hi : i' < 1099511627776) (w : World) :
    Calls Tryd.prog 31 #[nu k, nu i] w fun e w' => e = .returned ((Value.int .u8 (mkI k' i'))) ∧ Below w.heap.size w w' := by
  subst ek ei; exact markY_any k' i' hk hi w

theorem rows_cell {w : World} {base : Nat} {gl : List Value} {gg cg n : Nat} (h : w.ownsRow base 30 1 (.slice (some ⟨gg, 0, none⟩) n cg) n gl) (hn : gl.length = n) (k : Nat) (hk : k < gl.length) : w.cell? ⟨gg, k, none⟩ = some gl[k] := by
  obtain ⟨⟨u, h1, h2⟩, _⟩ := own_cellS h k (by omega)
  rw [List.getElem?_eq_getElem hk] at h1
  rw [h2, ← h1]

theorem mark_cellY {w : World} {base : Nat} {g c k n : Nat} (h : w.ownsRow base 5 1 (.slice (some ⟨g, 0, none⟩) n c) n (marksY k n)) (i : Nat) (hi : i < n) : w.cell? ⟨g, i, none⟩ = some ((Value.int .u8 (mkI k i))) := by
  obtain ⟨⟨u, h1, h2⟩, _⟩ := own_cellS h i (by omega)
  rw [marksY_at k n i hi] at h1
  rw [h2, ← h1]

theorem below_fromR {w a b : World} (h : Below w.heap.size w a) (k : Below a.heap.size a b) : Below w.heap.size w b := h.trans (k.mono h.size)

theorem keep_more {F : Nat → Prop} {w a b : World} (h : Keep F w a) (k : Below a.heap.size a b) : Keep F w b := h.trans (Keep.of_below (F := fun _ => False) k) (fun _ _ hf => hf.elim)

set_option maxRecDepth 1000000 in
set_option maxHeartbeats 4000000 in
theorem apartY_l (vs : List Value) (ln : Nat → Nat) (base L cap0 : Nat) (f0 : Nat → List Value) (w : World) (hL : LsR w base L vs ln f0) (ha : ApartR L vs) (hn : vs.length < 1000000) (hln : ∀ l, ln l < 1000000000) (hc0 : vs.length ≤ cap0) (hc1 : cap0 ≤ maxLen) :
    Calls Tryd.prog 11 #[.slice (some ⟨L, 0, none⟩) vs.length cap0] w fun e w' => e = .returned (.bool true) ∧ Keep (Wb vs) w w' ∧ ∃ f, LsR w' base L vs ln f := by
  unfold maxLen at hc1
  have HLN : Hid (∀ l, ln l < 1000000000) := hln
  have HA : Hid (ApartR L vs) := ha
  have HL0 : Hid (LsR w base L vs ln f0) := hL
  clear hln ha hL
  go_enter Tryd.func11, Tryd.ntmps11
  go_wp2
  go_loopw [3, 4] (fun kv _ wr => ∃ (k : Nat) (f : Nat → List Value), k ≤ vs.length ∧ kv = .int .i64 k ∧ Hid (LsR wr base L vs ln f) ∧ Hid (∀ l, l < k → f l = marksY l (ln l)) ∧ Hid (Keep (Wb vs) w wr)) (fun kv _ _ => vs.length - (intOf kv).toNat)
  case atStart => exact ⟨0, f0, Nat.zero_le _, rfl, HL0, fun l h => by omega, Keep.refl _ _⟩
  case round =>
    obtain ⟨k, f, hk, rfl, hls, hf, hb⟩ := hrel
    by_cases hkn : k < vs.length
    · go_wp2
      rename World => w1
      go_loopw [4] (fun iv wr => ∃ (i : Nat) (f : Nat → List Value), i ≤ ln k ∧ iv = .int .i64 i ∧ Hid (LsR wr base L vs ln f) ∧ Hid (∀ l, l < k → f l = marksY l (ln l)) ∧ Hid ((f k).take i = marksY k i) ∧ Hid (Keep (Wb vs) w wr)) (fun iv _ => ln k - (intOf iv).toNat)
      case atStart => exact ⟨0, f, Nat.zero_le _, rfl, hls, hf, rfl, hb⟩
      case round =>
        clear hls hf hb
        clear f
        obtain ⟨i, f, hi, rfl, hls, hf, hfk, hb⟩ := hrel
        obtain ⟨a, cap, hv, hcap, hmax, hg⟩ := Nm.own_shape (hls.out.own k hkn)
        have hlnk := HLN.out k
        have hcell : wr.cell? ⟨L, k, none⟩ = some (.slice a (ln k) cap) := by rw [← hv]; exact hls.out.cell k hkn
        unfold maxLen at hmax
        by_cases hin : i < ln k
        · obtain ⟨g, rfl⟩ := hg (by omega)
          have HV : Hid (vs[k] = .slice (some ⟨g, 0, none⟩) (ln k) cap) := hv
          clear hv hg
          go_upto_block 3 with fail
          go_cut [] from 18 to 35 (fun wr => ∃ (f : Nat → List Value), Hid (LsR wr base L vs ln f) ∧ Hid (∀ l, l < k → f l = marksY l (ln l)) ∧ Hid ((f k).take (i + 1) = marksY k (i + 1)) ∧ Hid (Keep (Wb vs) w wr))
          case first =>
            go_wp2_with fail
            go_region_with (go_at_call 31; refine (markY_any _ _ (by omega) (by omega) _).mono ?_; rintro e w5 ⟨rfl, q5⟩; have q6 := below_fromR (w := wr) (by repeat (first | exact Below.refl _ _ | apply Below.drew)) q5; obtain ⟨u, hcu, hfz, hc5⟩ := store_factsR hls.out hkn HV.out hin q6)
            all_goals (go_wp2_with fail; go_meet; exact store_stepR hls.out HA.out hkn HV.out hin q6 hf.out hfk.out hb.out)
          case rest =>
            obtain ⟨f', hls', hf', hfk', hb'⟩ := hcut
            clear hls hf hfk hb hcell
            go_wp2
            go_roundw
            case rel => exact ⟨i + 1, f', by omega, by go_num, hls', hf', hfk', hb'⟩
            case measure => simp [intOf]; omega
        · have hfull : Hid (∀ l, l < k + 1 → f l = marksY l (ln l)) := by
            intro l hl
            rcases Nat.lt_or_ge l k with h' | h'
            · exact hf.out l h'
            · have e : l = k := by omega
              subst e
              have hlen : (f l).length = ln l := by have := (hls.out.own l hkn).1; omega
              have := hfk.out
              have hil : i = ln l := by omega
              rw [hil, List.take_of_length_le (by omega)] at this
              exact this
          clear hv hg
          go_wp2
          go_roundw
          case rel => exact ⟨k + 1, f, by omega, by go_num, hls, hfull, hb⟩
          case measure => simp [intOf]; omega
    · have hall : Hid (LsR wr base L vs ln (fun l => marksY l (ln l))) := by
        have h := hls.out
        exact ⟨fun l hl => by have := h.own l hl; rw [hf.out l (by omega)] at this; exact this, h.cell, h.lt, h.le⟩
      clear hls hf
      clear f
      obtain ⟨i0, hi, hz0, hz1, hz2⟩ := info_parts info_byte
      obtain ⟨j0, hj, hy0, hy1, hy2⟩ := info_parts info_rowsY
      have hgs0 : Hid (GsR w wr base L vs ln [] (.slice none 0 0)) :=
        ⟨hall.out, fun l h => by simp at h, World.ownsRow_nil _ _ _ _, fun l h => Nm.Sep.nil _, fun l h => by simp at h, fun l h => by simp at h, by simp [Value.ownBlock], fun b h => by simp [Value.ownBlock] at h⟩
      clear hall
      go_wp2
      go_loopw [5, 6] (fun gv kv wr => ∃ (gl : List Value), gl.length ≤ vs.length ∧ kv = .int .i64 gl.length ∧ Hid (GsR w wr base L vs ln gl gv) ∧ Hid (Keep (Wb vs) w wr)) (fun _ kv _ => vs.length - (intOf kv).toNat)
      case atStart => exact ⟨[], Nat.zero_le _, rfl, hgs0, hb⟩
      case round =>
        clear hkn hk hgs0 hb
        obtain ⟨gl, hk, rfl, hgs, hb⟩ := hrel
        by_cases hkn : gl.length < vs.length
        · obtain ⟨a, cap, hv, hcap, hmax, hg⟩ := Nm.own_shape (hgs.out.ls.own _ hkn)
          have hlnk := HLN.out gl.length
          have hcell : wr.cell? ⟨L, gl.length, none⟩ = some (.slice a (ln gl.length) cap) := by rw [← hv]; exact hgs.out.ls.cell _ hkn
          unfold maxLen at hmax
          have hcur : Hid (CurR w wr base L vs ln gl u5 0 (.slice a (ln gl.length) cap)) := by rw [← hv]; exact CurR.start hgs.out HA.out hkn
          have HV : Hid (vs[gl.length] = .slice a (ln gl.length) cap) := hv
          clear hv hg hgs
          go_wp2
          go_loopw [7, 8] (fun cv iv wr => ∃ (i : Nat), i ≤ 64 ∧ iv = .int .i64 i ∧ Hid (CurR w wr base L vs ln gl u5 i cv) ∧ Hid (Keep (Wb vs) w wr)) (fun _ iv _ => 64 - (intOf iv).toNat)
          case atStart => exact ⟨0, by omega, rfl, hcur, hb⟩
          case round =>
            clear hcur hb hcell
            obtain ⟨i, hi64, rfl, hcur, hb⟩ := hrel
            have hcell : wr.cell? ⟨L, gl.length, none⟩ = some (.slice a (ln gl.length) cap) := by rw [← HV.out]; exact hcur.out.gs.ls.cell _ hkn
            by_cases hin : i < 64
            · go_wp2_with fail
              refine (markY_at _ _ gl.length (ln gl.length + i) rfl (by omega) (by omega) (by omega) _).mono ?_
              rintro e w5 ⟨rfl, q5⟩
              have hcur5 : CurR w w5 base L vs ln gl u5 i u7 := hcur.out.below q5
              have hle5 : base ≤ w5.heap.size := hcur5.gs.ls.le
              have hb5 : Hid (Keep (Wb vs) w w5) := keep_more hb.out q5
              have HC5 : Hid (CurR w w5 base L vs ln gl u5 i u7) := hcur5
              have howna := hcur5.own.alloc (.cells #[(Value.int .u8 (mkI gl.length (ln gl.length + i)))] 5)
              clear hcur5 hcell hcur hb
              go_wp2_with (at_builtin; refine Nm.wpList_append_keep _ rfl _ _ 30 rfl base 5 i0 (.int .u8 0) 1 1 Tryd.underlying30 hi hz0 hz1 hz2 rfl (by decide) _ _ _ rfl howna ⟨w5.heap.size, 0, none⟩ 1 1 [(Value.int .u8 (mkI gl.length (ln gl.length + i)))] rfl rfl ?c1 ?c2 ?c3 ?c4 ?c5 (by decide) ?_)
              case c1 => exact cell_one_new _ _ _
              case c2 => intro u hu; simp at hu; subst hu; rfl
              case c3 => unfold maxLen; omega
              case c4 => omega
              case c5 => simp; omega
              intro v' w6 hgrew
              have hal : Below w5.heap.size w5 (w5.alloc (.cells #[(Value.int .u8 (mkI gl.length (ln gl.length + i)))] 5)) := (Below.refl _ _).alloc (Nat.le_refl _) _
              have hkA := keep_more hb5.out hal
              have hcur6 : Hid (CurR w w6 base L vs ln gl u5 (i + 1) v') := CurR.step (HC5.out.below hal) hkA.size hgrew
              have hb6 : Hid (Keep (Wb vs) w w6) := Keep.grown hkA hgrew.grown (fun b hb => HC5.out.cpl b hb)
              clear hgrew howna HC5 hb5 hal hkA
              go_wp2
              go_roundw
              case rel => exact ⟨i + 1, by omega, by go_num, hcur6, hb6⟩
              case measure => simp [intOf]; omega
            · have hi2 : i = 64 := by omega
              subst hi2
              have hle5 : base ≤ wr.heap.size := hcur.out.gs.ls.le
              obtain ⟨ac, cc, hu7, _, _, _⟩ := Nm.own_shape hcur.out.own
              subst hu7
              have hrow := hcur.out.gs.row.alloc (.cells #[.slice ac (ln gl.length + 64) cc] 30)
              clear hcell
              go_wp2_with (at_builtin; refine Nm.wpList_append_keep _ rfl _ _ 40 rfl base 30 j0 (.slice none 0 0) 1 24 Tryd.underlying40 hj hy0 hy1 hy2 rfl (by decide) _ _ _ rfl hrow ⟨wr.heap.size, 0, none⟩ 1 1 [.slice ac (ln gl.length + 64) cc] rfl rfl ?c1 ?c2 ?c3 ?c4 ?c5 (by decide) ?_)
              case c1 => exact cell_one_new _ _ _
              case c2 => intro u hu; simp at hu; subst hu; rfl
              case c3 => unfold maxLen; omega
              case c4 => omega
              case c5 => simp; omega
              intro v' w6 hgrew
              have hal : Below wr.heap.size wr (wr.alloc (.cells #[.slice ac (ln gl.length + 64) cc] 30)) := (Below.refl _ _).alloc (Nat.le_refl _) _
              have hkA := keep_more hb.out hal
              have hgs6 : Hid (GsR w w6 base L vs ln (gl ++ [.slice ac (ln gl.length + 64) cc]) v') := GsR.step (hcur.out.below hal) hkA.size hgrew
              have hb6 : Hid (Keep (Wb vs) w w6) := Keep.grown hkA hgrew.grown (fun b hb => .inr (hcur.out.gs.gpl b hb))
              clear hgrew hrow hal hcur hb hkA
              go_wp2
              go_roundw
              case rel => exact ⟨gl ++ [.slice ac (ln gl.length + 64) cc], by simp; omega, by simp, hgs6, hb6⟩
              case measure => simp [intOf]; omega
        · have hgl : gl.length = vs.length := by omega
          have HGL : Hid (gl.length = vs.length) := hgl
          clear hgl
          go_wp2
          clear hkn hk
          go_loopw [9] (fun kv wr => ∃ (k : Nat), k ≤ vs.length ∧ kv = .int .i64 k ∧ Hid (GsR w wr base L vs ln gl u5) ∧ Hid (Keep (Wb vs) w wr)) (fun kv _ => vs.length - (intOf kv).toNat)
          case atStart => exact ⟨0, Nat.zero_le _, rfl, hgs, hb⟩
          case round =>
            obtain ⟨ag, cg, hu5, hg1, hg2, hg3⟩ := Nm.own_shape hgs.out.row
            subst hu5
            clear hgs hb
            obtain ⟨k2, hk, rfl, hgs, hb⟩ := hrel
            unfold maxLen at hg2
            by_cases hkn : k2 < vs.length
            · have hkg : k2 < gl.length := by have := HGL.out; omega
              obtain ⟨gg, rfl⟩ := hg3 (by omega)
              obtain ⟨a2, c2, hs1, hs2, hs3, hs4⟩ := Nm.own_shape (hgs.out.gown k2 hkg)
              obtain ⟨g2, rfl⟩ := hs4 (by omega)
              have HS1 : Hid (gl[k2] = .slice (some ⟨g2, 0, none⟩) (ln k2 + 64) c2) := hs1
              obtain ⟨a1, c1, hv1, hv2, hv3, hv4⟩ := Nm.own_shape (hgs.out.ls.own k2 hkn)
              have HV1 : Hid (vs[k2] = .slice a1 (ln k2) c1) := hv1
              have HV4 : Hid (0 < ln k2 → ∃ g, a1 = some ⟨g, 0, none⟩) := hv4
              have hlnk := HLN.out k2
              clear hs1 hs4 hv1 hg3 hv4
              unfold maxLen at hs3 hv3
              go_wp2
              go_loopw [10] (fun iv wr => ∃ (i : Nat), i ≤ ln k2 + 64 ∧ iv = .int .i64 i ∧ Hid (GsR w wr base L vs ln gl (.slice (some ⟨gg, 0, none⟩) gl.length cg)) ∧ Hid (Keep (Wb vs) w wr)) (fun iv _ => ln k2 + 64 - (intOf iv).toNat)
              case atStart => exact ⟨0, Nat.zero_le _, rfl, hgs, hb⟩
              case round =>
                clear hgs hb
                obtain ⟨i, hi64, rfl, hgs, hb⟩ := hrel
                have hc1 : wr.cell? ⟨gg, k2, none⟩ = some (.slice (some ⟨g2, 0, none⟩) (ln k2 + 64) c2) := by
                  rw [← HS1.out]; exact rows_cell hgs.out.row rfl k2 hkg
                by_cases hin : i < ln k2 + 64
                · go_wp2_with fail
                  refine (markY_any _ _ (by omega) (by omega) _).mono ?_
                  rintro e w5 ⟨rfl, q5⟩
                  have hgs5 : Hid (GsR w w5 base L vs ln gl (.slice (some ⟨gg, 0, none⟩) gl.length cg)) := hgs.out.below q5
                  have hb5 : Hid (Keep (Wb vs) w w5) := keep_more hb.out q5
                  clear hgs hb hc1
                  have hc1 : w5.cell? ⟨gg, k2, none⟩ = some (.slice (some ⟨g2, 0, none⟩) (ln k2 + 64) c2) := by
                    rw [← HS1.out]; exact rows_cell hgs5.out.row rfl k2 hkg
                  have hc2 : w5.cell? ⟨g2, i, none⟩ = some ((Value.int .u8 (mkI k2 i))) := mark_cellY (by rw [← HS1.out]; exact hgs5.out.gown k2 hkg) i hin
                  have hc3 : w5.cell? ⟨L, k2, none⟩ = some (.slice a1 (ln k2) c1) := by rw [← HV1.out]; exact hgs5.out.ls.cell k2 hkn
                  generalize hms : mkI k2 i = mm at *
                  by_cases hil : i < ln k2
                  · obtain ⟨g1, rfl⟩ := HV4.out (by omega)
                    have hc4 : w5.cell? ⟨g1, i, none⟩ = some (.int .u8 mm) := by
                      rw [← hms]; exact mark_cellY (by rw [← HV1.out]; exact hgs5.out.ls.own k2 hkn) i hil
                    clear hms
                    go_wp2
                    go_roundw
                    case rel => exact ⟨i + 1, by omega, by go_num, hgs5, hb5⟩
                    case measure => simp [intOf]; omega
                  · clear hms
                    go_wp2
                    go_roundw
                    case rel => exact ⟨i + 1, by omega, by go_num, hgs5, hb5⟩
                    case measure => simp [intOf]; omega
                · go_wp2
                  go_roundw
                  case rel => exact ⟨k2 + 1, by omega, by go_num, hgs, hb⟩
                  case measure => simp [intOf]; omega
            · go_wp2
              go_ret
              exact ⟨rfl, hb.out, _, hgs.out.ls⟩
end Pk
end Go.Proofs.YtnllplholfhbdaaDoor
