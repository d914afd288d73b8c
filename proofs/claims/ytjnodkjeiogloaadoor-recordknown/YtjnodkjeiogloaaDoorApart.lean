/- ApartTexts answers true of lists that lie in blocks of their own. -/
import Derived.Test.YtjnodkjeiogloaaDoorApartP
namespace Go.Proofs.YtjnodkjeiogloaaDoor
open Go.RowKit
namespace Nm

theorem row_cell {w : World} {base : Nat} {gl : List Value} {gg cg : Nat} (h : w.ownsRow base 25 1 (.slice (some ⟨gg, 0, none⟩) gl.length cg) gl.length gl) (k : Nat) (hk : k < gl.length) : w.cell? ⟨gg, k, none⟩ = some gl[k] := by
  obtain ⟨⟨u, h1, h2⟩, _⟩ := own_cell h k hk
  rw [List.getElem?_eq_getElem hk] at h1
  rw [h2, ← h1]

theorem mark_cell {w : World} {base : Nat} {g c k n : Nat} (h : w.ownsRow base 9 1 (.slice (some ⟨g, 0, none⟩) n c) n (marks k n)) (i : Nat) (hi : i < n) : w.cell? ⟨g, i, none⟩ = some (.string (markS k i)) := by
  obtain ⟨⟨u, h1, h2⟩, _⟩ := own_cell h i hi
  rw [marks_at k n i hi] at h1
  rw [h2, ← h1]; rfl

set_option maxRecDepth 1000000 in
set_option maxHeartbeats 4000000 in
theorem apart_l (vs : List Value) (ln : Nat → Nat) (base L : Nat) (f0 : Nat → List Value) (w : World) (hL : Ls w base L vs ln f0) (ha : Apart L vs) (hn : vs.length < 1000000) (hln : ∀ l, ln l < 900000) :
    Calls Tryd.prog 10 #[.slice (some ⟨L, 0, none⟩) vs.length vs.length] w fun e w' => e = .returned (.bool true) ∧ Below base w w' := by
  have HLN : Hid (∀ l, ln l < 900000) := hln
  have HA : Hid (Apart L vs) := ha
  have HL0 : Hid (Ls w base L vs ln f0) := hL
  clear hln ha hL
  go_enter Tryd.func10, Tryd.ntmps10
  go_wp2
  go_loopw [3, 4] (fun kv _ wr => ∃ (k : Nat) (f : Nat → List Value), k ≤ vs.length ∧ kv = .int .i64 k ∧ Hid (Ls wr base L vs ln f) ∧ Hid (∀ l, l < k → f l = marks l (ln l)) ∧ Hid (Below base w wr)) (fun kv _ _ => vs.length - (intOf kv).toNat)
  case atStart => exact ⟨0, f0, Nat.zero_le _, rfl, HL0, fun l h => by omega, Below.refl _ _⟩
  case round =>
    obtain ⟨k, f, hk, rfl, hls, hf, hb⟩ := hrel
    by_cases hkn : k < vs.length
    · go_wp2
      rename World => w1
      go_loopw [4] (fun iv wr => ∃ (i : Nat) (f : Nat → List Value), i ≤ ln k ∧ iv = .int .i64 i ∧ Hid (Ls wr base L vs ln f) ∧ Hid (∀ l, l < k → f l = marks l (ln l)) ∧ Hid ((f k).take i = marks k i) ∧ Hid (Below base w wr)) (fun iv _ => ln k - (intOf iv).toNat)
      case atStart => exact ⟨0, f, Nat.zero_le _, rfl, hls, hf, rfl, hb⟩
      case round =>
        clear hls hf hb
        clear f
        obtain ⟨i, f, hi, rfl, hls, hf, hfk, hb⟩ := hrel
        obtain ⟨a, cap, hv, hcap, hmax, hg⟩ := own_shape (hls.out.own k hkn)
        have hlnk := HLN.out k
        have hcell : wr.cell? ⟨L, k, none⟩ = some (.slice a (ln k) cap) := by rw [← hv]; exact hls.out.cell k hkn
        unfold maxLen at hmax
        by_cases hin : i < ln k
        · obtain ⟨g, rfl⟩ := hg (by omega)
          have HV : Hid (vs[k] = .slice (some ⟨g, 0, none⟩) (ln k) cap) := hv
          clear hv hg
          go_upto_block 3 with fail
          go_cut [] from 18 to 35 (fun wr => ∃ (f : Nat → List Value), Hid (Ls wr base L vs ln f) ∧ Hid (∀ l, l < k → f l = marks l (ln l)) ∧ Hid ((f k).take (i + 1) = marks k (i + 1)) ∧ Hid (Below base w wr))
          case first =>
            go_wp2_with fail
            go_region_with (go_at_call 20; refine (marktexts_any _ _ (by omega) (by omega) _).mono ?_; rintro e w5 ⟨rfl, q5⟩; have q6 := below_from (w := wr) (by repeat (first | exact Below.refl _ _ | apply Below.drew)) q5; obtain ⟨u, hcu, hfz, hc5⟩ := store_facts hls.out hkn HV.out hin q6)
            all_goals (go_wp2_with fail; go_meet; exact store_step hls.out HA.out hkn HV.out hin q6 hf.out hfk.out hb.out)
          case rest =>
            obtain ⟨f', hls', hf', hfk', hb'⟩ := hcut
            clear hls hf hfk hb hcell
            go_wp2
            go_roundw
            case rel => exact ⟨i + 1, f', by omega, by go_num, hls', hf', hfk', hb'⟩
            case measure => simp [intOf]; omega
        · have hfull : Hid (∀ l, l < k + 1 → f l = marks l (ln l)) := by
            intro l hl
            rcases Nat.lt_or_ge l k with h' | h'
            · exact hf.out l h'
            · have e : l = k := by omega
              subst e
              have hlen : (f l).length = ln l := by have := (hls.out.own l hkn).1; omega
              have := hfk.out
              have hil : i = ln l := by omega
              rw [hil, List.take_of_length_le (by omega)] at this
              exact this
          clear hv hg
          go_wp2
          go_roundw
          case rel => exact ⟨k + 1, f, by omega, by go_num, hls, hfull, hb⟩
          case measure => simp [intOf]; omega
    · have hall : Hid (Ls wr base L vs ln (fun l => marks l (ln l))) := by
        have h := hls.out
        exact ⟨fun l hl => by have := h.own l hl; rw [hf.out l (by omega)] at this; exact this, h.cell, h.lt, h.le⟩
      clear hls hf
      clear f
      obtain ⟨i0, hi, hz0, hz1, hz2⟩ := info_parts Tryd.info9
      obtain ⟨j0, hj, hy0, hy1, hy2⟩ := info_parts Tryd.info25
      have hgs0 : Hid (Gs wr base L vs ln [] (.slice none 0 0)) :=
        ⟨hall.out, fun l h => by simp at h, World.ownsRow_nil _ _ _ _, fun l h => Sep.nil _, fun l h => by simp at h, fun l h => by simp at h, by simp [Value.ownBlock]⟩
      clear hall
      go_wp2
      go_loopw [5, 6] (fun gv kv wr => ∃ (gl : List Value), gl.length ≤ vs.length ∧ kv = .int .i64 gl.length ∧ Hid (Gs wr base L vs ln gl gv) ∧ Hid (Below base w wr)) (fun _ kv _ => vs.length - (intOf kv).toNat)
      case atStart => exact ⟨[], Nat.zero_le _, rfl, hgs0, hb⟩
      case round =>
        clear hkn hk hgs0 hb
        obtain ⟨gl, hk, rfl, hgs, hb⟩ := hrel
        by_cases hkn : gl.length < vs.length
        · obtain ⟨a, cap, hv, hcap, hmax, hg⟩ := own_shape (hgs.out.ls.own _ hkn)
          have hlnk := HLN.out gl.length
          have hcell : wr.cell? ⟨L, gl.length, none⟩ = some (.slice a (ln gl.length) cap) := by rw [← hv]; exact hgs.out.ls.cell _ hkn
          unfold maxLen at hmax
          have hcur : Hid (Cur wr base L vs ln gl u5 0 (.slice a (ln gl.length) cap)) := by rw [← hv]; exact Cur.start hgs.out HA.out hkn
          have HV : Hid (vs[gl.length] = .slice a (ln gl.length) cap) := hv
          clear hv hg hgs
          go_wp2
          go_loopw [7, 8] (fun cv iv wr => ∃ (i : Nat), i ≤ 64 ∧ iv = .int .i64 i ∧ Hid (Cur wr base L vs ln gl u5 i cv) ∧ Hid (Below base w wr)) (fun _ iv _ => 64 - (intOf iv).toNat)
          case atStart => exact ⟨0, by omega, rfl, hcur, hb⟩
          case round =>
            clear hcur hb hcell
            obtain ⟨i, hi64, rfl, hcur, hb⟩ := hrel
            have hcell : wr.cell? ⟨L, gl.length, none⟩ = some (.slice a (ln gl.length) cap) := by rw [← HV.out]; exact hcur.out.gs.ls.cell _ hkn
            by_cases hin : i < 64
            · go_wp2_with fail
              refine (marktexts_at _ _ gl.length (ln gl.length + i) rfl (by omega) (by omega) (by omega) _).mono ?_
              rintro e w5 ⟨rfl, q5⟩
              have hcur5 : Cur w5 base L vs ln gl u5 i u7 := hcur.out.below q5
              have hle5 : base ≤ w5.heap.size := hcur5.gs.ls.le
              have hb5 : Hid (Below base w w5) := hb.out.trans (q5.mono hcur.out.gs.ls.le)
              have HC5 : Hid (Cur w5 base L vs ln gl u5 i u7) := hcur5
              have howna := hcur5.own.alloc (.cells #[.string (markS gl.length (ln gl.length + i))] 9)
              clear hcur5 hcell hcur hb
              go_wp2_with (at_builtin; refine wpList_append_keep _ rfl _ _ 25 rfl base 9 i0 (.string ⟨#[]⟩) 1 16 Tryd.underlying25 hi hz0 hz1 hz2 rfl (by decide) _ _ _ rfl howna ⟨w5.heap.size, 0, none⟩ 1 1 [.string (markS gl.length (ln gl.length + i))] rfl rfl ?c1 ?c2 ?c3 ?c4 ?c5 (by decide) ?_)
              case c1 => exact cell_one_new _ _ _
              case c2 => intro u hu; simp at hu; subst hu; rfl
              case c3 => unfold maxLen; omega
              case c4 => omega
              case c5 => simp; omega
              intro v' w6 hgrew
              have hal : Below w5.heap.size w5 (w5.alloc (.cells #[.string (markS gl.length (ln gl.length + i))] 9)) := (Below.refl _ _).alloc (Nat.le_refl _) _
              have hcur6 : Hid (Cur w6 base L vs ln gl u5 (i + 1) v') := Cur.step (HC5.out.below hal) hgrew
              have hb6 : Hid (Below base w w6) := Below.grown (hb5.out.trans (hal.mono hle5)) hgrew.grown (by simp; omega) (fun b hb => (howna.lt b hb).1)
              clear hgrew howna HC5 hb5 hal
              go_wp2
              go_roundw
              case rel => exact ⟨i + 1, by omega, by go_num, hcur6, hb6⟩
              case measure => simp [intOf]; omega
            · have hi2 : i = 64 := by omega
              subst hi2
              have hle5 : base ≤ wr.heap.size := hcur.out.gs.ls.le
              obtain ⟨ac, cc, hu7, _, _, _⟩ := own_shape hcur.out.own
              subst hu7
              have hrow := hcur.out.gs.row.alloc (.cells #[.slice ac (ln gl.length + 64) cc] 25)
              clear hcell
              go_wp2_with (at_builtin; refine wpList_append_keep _ rfl _ _ 35 rfl base 25 j0 (.slice none 0 0) 1 24 Tryd.underlying35 hj hy0 hy1 hy2 rfl (by decide) _ _ _ rfl hrow ⟨wr.heap.size, 0, none⟩ 1 1 [.slice ac (ln gl.length + 64) cc] rfl rfl ?c1 ?c2 ?c3 ?c4 ?c5 (by decide) ?_)
              case c1 => exact cell_one_new _ _ _
              case c2 => intro u hu; simp at hu; subst hu; rfl
              case c3 => unfold maxLen; omega
              case c4 => omega
              case c5 => simp; omega
              intro v' w6 hgrew
              have hal : Below wr.heap.size wr (wr.alloc (.cells #[.slice ac (ln gl.length + 64) cc] 25)) := (Below.refl _ _).alloc (Nat.le_refl _) _
              have hgs6 : Hid (Gs w6 base L vs ln (gl ++ [.slice ac (ln gl.length + 64) cc]) v') := Gs.step (hcur.out.below hal) hgrew
              have hb6 : Hid (Below base w w6) := Below.grown (hb.out.trans (hal.mono hle5)) hgrew.grown (by simp; omega) (fun b hb => (hrow.lt b hb).1)
              clear hgrew hrow hal hcur hb
              go_wp2
              go_roundw
              case rel => exact ⟨gl ++ [.slice ac (ln gl.length + 64) cc], by simp; omega, by simp, hgs6, hb6⟩
              case measure => simp [intOf]; omega
        · have hgl : gl.length = vs.length := by omega
          have HGL : Hid (gl.length = vs.length) := hgl
          clear hgl
          go_wp2
          clear hkn hk
          go_loopw [9] (fun kv wr => ∃ (k : Nat), k ≤ vs.length ∧ kv = .int .i64 k ∧ Hid (Gs wr base L vs ln gl u5) ∧ Hid (Below base w wr)) (fun kv _ => vs.length - (intOf kv).toNat)
          case atStart => exact ⟨0, Nat.zero_le _, rfl, hgs, hb⟩
          case round =>
            obtain ⟨ag, cg, hu5, hg1, hg2, hg3⟩ := own_shape hgs.out.row
            subst hu5
            clear hgs hb
            obtain ⟨k2, hk, rfl, hgs, hb⟩ := hrel
            unfold maxLen at hg2
            by_cases hkn : k2 < vs.length
            · have hkg : k2 < gl.length := by have := HGL.out; omega
              obtain ⟨gg, rfl⟩ := hg3 (by omega)
              obtain ⟨a2, c2, hs1, hs2, hs3, hs4⟩ := own_shape (hgs.out.gown k2 hkg)
              obtain ⟨g2, rfl⟩ := hs4 (by omega)
              have HS1 : Hid (gl[k2] = .slice (some ⟨g2, 0, none⟩) (ln k2 + 64) c2) := hs1
              obtain ⟨a1, c1, hv1, hv2, hv3, hv4⟩ := own_shape (hgs.out.ls.own k2 hkn)
              have HV1 : Hid (vs[k2] = .slice a1 (ln k2) c1) := hv1
              have HV4 : Hid (0 < ln k2 → ∃ g, a1 = some ⟨g, 0, none⟩) := hv4
              have hlnk := HLN.out k2
              clear hs1 hs4 hv1 hg3 hv4
              unfold maxLen at hs3 hv3
              go_wp2
              go_loopw [10] (fun iv wr => ∃ (i : Nat), i ≤ ln k2 + 64 ∧ iv = .int .i64 i ∧ Hid (Gs wr base L vs ln gl (.slice (some ⟨gg, 0, none⟩) gl.length cg)) ∧ Hid (Below base w wr)) (fun iv _ => ln k2 + 64 - (intOf iv).toNat)
              case atStart => exact ⟨0, Nat.zero_le _, rfl, hgs, hb⟩
              case round =>
                clear hgs hb
                obtain ⟨i, hi64, rfl, hgs, hb⟩ := hrel
                have hc1 : wr.cell? ⟨gg, k2, none⟩ = some (.slice (some ⟨g2, 0, none⟩) (ln k2 + 64) c2) := by
                  rw [← HS1.out]; exact row_cell hgs.out.row k2 hkg
                by_cases hin : i < ln k2 + 64
                · go_wp2_with fail
                  refine (marktexts_any _ _ (by omega) (by omega) _).mono ?_
                  rintro e w5 ⟨rfl, q5⟩
                  have hgs5 : Hid (Gs w5 base L vs ln gl (.slice (some ⟨gg, 0, none⟩) gl.length cg)) := hgs.out.below q5
                  have hb5 : Hid (Below base w w5) := hb.out.trans (q5.mono hgs.out.ls.le)
                  clear hgs hb hc1
                  have hc1 : w5.cell? ⟨gg, k2, none⟩ = some (.slice (some ⟨g2, 0, none⟩) (ln k2 + 64) c2) := by
                    rw [← HS1.out]; exact row_cell hgs5.out.row k2 hkg
                  have hc2 : w5.cell? ⟨g2, i, none⟩ = some (.string (markS k2 i)) := mark_cell (by rw [← HS1.out]; exact hgs5.out.gown k2 hkg) i hin
                  have hc3 : w5.cell? ⟨L, k2, none⟩ = some (.slice a1 (ln k2) c1) := by rw [← HV1.out]; exact hgs5.out.ls.cell k2 hkn
                  generalize hms : markS k2 i = mm at *
                  by_cases hil : i < ln k2
                  · obtain ⟨g1, rfl⟩ := HV4.out (by omega)
                    have hc4 : w5.cell? ⟨g1, i, none⟩ = some (.string mm) := by
                      rw [← hms]; exact mark_cell (by rw [← HV1.out]; exact hgs5.out.ls.own k2 hkn) i hil
                    clear hms
                    go_wp2
                    go_roundw
                    case rel => exact ⟨i + 1, by omega, by go_num, hgs5, hb5⟩
                    case measure => simp [intOf]; omega
                  · clear hms
                    go_wp2
                    go_roundw
                    case rel => exact ⟨i + 1, by omega, by go_num, hgs5, hb5⟩
                    case measure => simp [intOf]; omega
                · go_wp2
                  go_roundw
                  case rel => exact ⟨k2 + 1, by omega, by go_num, hgs, hb⟩
                  case measure => simp [intOf]; omega
            · go_wp2
              go_ret
              exact ⟨rfl, hb.out⟩
end Nm
end Go.Proofs.YtjnodkjeiogloaaDoor
