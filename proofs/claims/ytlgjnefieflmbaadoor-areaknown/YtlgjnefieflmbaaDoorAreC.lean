/- The closed law's rows, and every cut of some images. -/
import Derived.Test.YtlgjnefieflmbaaDoorAreT
namespace Go.Proofs.YtlgjnefieflmbaaDoor
set_option linter.ambiguousOpen false
open Go.RowKit
namespace Ae
open Sm Ft Dk Pk
set_option linter.unusedSimpArgs false
set_option linter.unusedVariables false

/-- So many bytes. -/
def rowA (n : Nat) : List UInt8 := (List.range n).map (fun i : Nat => UInt8.ofNat ((5 * i + 1) % 256))

theorem rowA_len (n : Nat) : (rowA n).length = n := by simp [rowA]

theorem rowA_succ (n : Nat) : rowA (n + 1) = rowA n ++ [UInt8.ofNat ((5 * n + 1) % 256)] := by simp [rowA, List.range_succ]

set_option maxRecDepth 100000 in
set_option maxHeartbeats 1000000 in
theorem row_any (n : Nat) (w : World) (hn : n ≤ 1000000) :
    Calls Tryd.prog 47 #[nu (n : Int)] w fun e w' => ∃ x, e = .returned x ∧ w'.ownsRow w.heap.size 5 1 x n ((rowA n).map by1) ∧ Below w.heap.size w w' := by
  obtain ⟨i0, ji, hz0, hz1, hz2⟩ := info_parts info_byte
  go_enter Tryd.func47, Tryd.ntmps47
  go_wp2
  go_loopw [3, 4] (fun lv iv wr => ∃ (k : Nat), k ≤ n ∧ iv = nu (k : Int) ∧ Hid (wr.ownsRow w.heap.size 5 1 lv k ((rowA k).map by1)) ∧ Hid (Below w.heap.size w wr)) (fun _ iv _ => n - (intOf iv).toNat)
  case atStart => exact ⟨0, by omega, rfl, World.ownsRow_nil _ _ _ _, Below.refl _ _⟩
  case round =>
    obtain ⟨k, hk, rfl, hO, hB⟩ := hrel
    by_cases hc : k < n
    · have hc' : (k : Int) < (n : Int) := by omega
      have hmx : Hid (k + 1 ≤ maxLen) := by show _ ≤ _; unfold maxLen; omega
      have hby : Hid ((k + 1) * 1 ≤ 140737488355328) := by show _ ≤ _; omega
      have hws : Hid (w.heap.size ≤ wr.heap.size) := hB.out.size
      obtain ⟨y, hy⟩ : ∃ y : Nat, (5 * k + 1) % 256 = y := ⟨_, rfl⟩
      have hyI : ((k : Int) * 5 + 1) % 256 = (y : Int) := by omega
      have hb1 : Hid (by1 (UInt8.ofNat y) = .int .u8 (y : Int)) := by
        show Value.int .u8 _ = _
        rw [UInt8.toNat_ofNat_of_lt' (by omega : y < 2 ^ 8)]
      have hS : Hid ((rowA (k + 1)).map by1 = (rowA k).map by1 ++ [.int .u8 (y : Int)]) := by
        show _ = _
        rw [rowA_succ, hy, List.map_append, ← hb1.out]
        rfl
      have hone : Hid (∀ x ∈ [Value.int .u8 (y : Int)], x.oneCell' = true) := by intro x hx; simp at hx; subst hx; rfl
      clear hy hb1
      go_wp2_with (at_builtin; refine wpList_append_own _ rfl _ _ 33 rfl w.heap.size 5 i0 (.int .u8 0) 1 1 Tryd.underlying33 ji hz0 hz1 hz2 rfl (by decide) _ _ _ rfl (hO.out.alloc _) ⟨wr.heap.size, 0, none⟩ 1 1 [.int .u8 (y : Int)] rfl rfl (cell_one_new _ _ _) hone.out hmx.out hby.out (by have := hws.out; simp; omega) ?_; intro v' w4 hown4 hgrow _; rw [← hS.out] at hown4; have hO4 := Hid.mk' hown4; have hB4 : Hid (Below w.heap.size w w4) := Below.grown (hB.out.alloc hws.out _) hgrow (by have := hws.out; simp; omega) (fun k hk => (hO.out.lt k hk).1); clear hown4 hgrow)
      go_wp2
      go_roundw
      case rel => exact ⟨k + 1, by omega, by go_num, hO4, hB4⟩
      case measure => simp [intOf]; omega
    · obtain rfl : k = n := by omega
      go_wp2
      go_ret
      exact ⟨_, rfl, hO.out, hB.out⟩

/-- The same, as a row that is read. -/
theorem row_rd (n : Nat) (w : World) (hn : n ≤ 1000000) :
    Calls Tryd.prog 47 #[nu (n : Int)] w fun e w' => ∃ xa xc, e = .returned (.slice xa n xc) ∧ RdB w' (.slice xa n xc) (rowA n) ∧ Nz (.slice xa n xc) ∧ Below w.heap.size w w' := by
  refine (row_any n w hn).mono ?_
  rintro e w' ⟨x, rfl, ho, hb⟩
  have hz := nz_own ho
  have hr := own_rd' ho (rowA_len n)
  obtain ⟨xa, xc, rfl, _⟩ := Nm.own_shape ho
  exact ⟨xa, xc, rfl, hr, hz, hb⟩

def szs : List Nat := [0, 1, 255, 256, 257, 512, 600]

theorem szs_at (w : World) (i : Nat) (hi : i < 7) : ∃ s : Nat, s ≤ 600 ∧ (w.alloc (.cells #[nu 0, nu 1, nu 255, nu 256, nu 257, nu 512, nu 600] 3)).cell? ⟨w.heap.size, i, none⟩ = some (nu (s : Int)) := by
  refine ⟨szs.getD i 0, ?_, ?_⟩
  · match i, hi with
    | 0, _ | 1, _ | 2, _ | 3, _ | 4, _ | 5, _ | 6, _ => decide
  · rw [World.cell?]
    simp only [heap_alloc_new]
    match i, hi with
    | 0, _ | 1, _ | 2, _ | 3, _ | 4, _ | 5, _ | 6, _ => rfl

set_option maxRecDepth 100000 in
set_option maxHeartbeats 8000000 in
theorem knownCuts_yes {Rep : World → Nat → (Nat → Prop) → Dsk → Prop} (H : Says Rep) (SV : SaveC Rep) (LD : LoadC Rep) (w : World) (hE : Er.Handle w) :
    Calls Tryd.prog 26 #[] w fun e w' => e = .returned (.bool true) ∧ Below w.heap.size w w' := by
  have HE := Hid.mk' hE
  have cO : Hid (∀ (wx : World) (a : Int) (ep : Nat) (v v2 : Value) (s1 s2 c : Nat), Below w.heap.size w wx → (0 ≤ a ∧ a ≤ 2) → ep < 4294967296 → c ≤ 5 → RdB wx v (rowA s1) → Nz v → RdB wx v2 (rowA s2) → Nz v2 → Calls Tryd.prog 5 #[.agg #[nu a, nu 2, .int .u32 (ep : Int), v], v2, nu (c : Int)] wx fun e w' => e = .returned (.bool true) ∧ Below wx.heap.size wx w') := fun wx a ep v v2 s1 s2 c hb ha hep hc h1 h2 h3 h4 => areaOne_yes H SV LD wx a 2 c ep v v2 _ _ h1 h2 h3 h4 (by omega) (by omega) (by omega) hep (HE.out.below hb)
  clear H SV LD hE
  have HSZ : Hid (∀ i : Nat, i < 7 → _) := fun i hi => szs_at w i hi
  have HB0 : Hid (Below w.heap.size w (w.alloc (.cells #[nu 0, nu 1, nu 255, nu 256, nu 257, nu 512, nu 600] 3))) := (Below.refl _ _).alloc (Nat.le_refl _) _
  have hlt : w.heap.size < (w.alloc (.cells #[nu 0, nu 1, nu 255, nu 256, nu 257, nu 512, nu 600] 3)).heap.size := by simp
  obtain ⟨W, hW⟩ : ∃ W, w.alloc (.cells #[.int .i64 0, .int .i64 1, .int .i64 255, .int .i64 256, .int .i64 257, .int .i64 512, .int .i64 600] 3) = W := ⟨_, rfl⟩
  unfold nu at HSZ HB0 hlt
  rw [hW] at HB0 hlt
  simp only [hW] at HSZ
  obtain ⟨B, hB⟩ : ∃ B, w.heap.size = B := ⟨_, rfl⟩
  simp only [hB] at HSZ hlt
  go_enter Tryd.func26, Tryd.ntmps26
  go_wp2
  clear hW
  go_loopw [2, 3, 4] (fun iv _ _ wr => ∃ i : Nat, i ≤ 7 ∧ iv = nu (i : Int) ∧ Hid (Below W.heap.size W wr)) (fun iv _ _ _ => 7 - (intOf iv).toNat)
  case atStart => exact ⟨0, by omega, rfl, Below.refl _ _⟩
  case round =>
    obtain ⟨i, hi, rfl, HBi⟩ := hrel
    by_cases hi7 : i < 7
    · have hi7' : (i : Int) < 7 := by omega
      have hi0 : (0 : Int) ≤ (i : Int) := by omega
      obtain ⟨s1, hs1, hz1⟩ := HSZ.out i hi7
      have HZ1 := Hid.mk' hz1
      clear hz1
      go_wp2
      rename World => w2
      go_loopw [3, 4] (fun kv _ wr => ∃ k : Nat, k ≤ 7 ∧ kv = nu (k : Int) ∧ Hid (Below W.heap.size W wr)) (fun kv _ _ => 7 - (intOf kv).toNat)
      case atStart => exact ⟨0, by omega, rfl, HBi⟩
      case round =>
        obtain ⟨k, hk, rfl, HBk⟩ := hrel
        clear HBi
        by_cases hk7 : k < 7
        · have hk7' : (k : Int) < 7 := by omega
          have hk0 : (0 : Int) ≤ (k : Int) := by omega
          obtain ⟨s2, hs2, hz2⟩ := HSZ.out k hk7
          have HZ2 := Hid.mk' hz2
          clear hz2
          go_wp2
          rename World => w3
          go_loopw [4] (fun cv wr => ∃ c : Nat, c ≤ 5 ∧ cv = nu (c : Int) ∧ Hid (Below W.heap.size W wr)) (fun cv _ => 5 - (intOf cv).toNat)
          case atStart => exact ⟨0, by omega, rfl, HBk⟩
          case round =>
            obtain ⟨c, hc, rfl, HBc⟩ := hrel
            clear HBk
            by_cases hc5 : c < 5
            · have hc5' : (c : Int) < 5 := by omega
              have hwi : IntKind.u32.wrap (i : Int) = (i : Int) := by rw [IntKind.wrap_u32]; omega
              have hst : Hid (∀ wx, Below W.heap.size W wx → (Below W.heap.size W wx ∧ wx.cell? ⟨B, i, none⟩ = some (nu (s1 : Int)) ∧ wx.cell? ⟨B, k, none⟩ = some (nu (s2 : Int)))) := fun wx hb => ⟨hb, (hb.cell (p := ⟨B, i, none⟩) hlt).trans HZ1.out, (hb.cell (p := ⟨B, k, none⟩) hlt).trans HZ2.out⟩
              have R1 : Hid (∀ wx, (Below W.heap.size W wx ∧ wx.cell? ⟨B, i, none⟩ = some (nu (s1 : Int)) ∧ wx.cell? ⟨B, k, none⟩ = some (nu (s2 : Int))) → Calls Tryd.prog 47 #[nu (s1 : Int)] wx fun e w' => ∃ xa xc, e = .returned (.slice xa s1 xc) ∧ (Below W.heap.size W w' ∧ w'.cell? ⟨B, i, none⟩ = some (nu (s1 : Int)) ∧ w'.cell? ⟨B, k, none⟩ = some (nu (s2 : Int))) ∧ Hid (RdB w' (.slice xa s1 xc) (rowA s1) ∧ Nz (.slice xa s1 xc))) := fun wx h => (row_rd s1 wx (by omega)).mono (by
                rintro e w' ⟨xa, xc, rfl, h1, h2, hb⟩
                exact ⟨xa, xc, rfl, hst.out _ (below_fromS h.1 hb), h1, h2⟩)
              have R2 : Hid (∀ wx xa xc, (Below W.heap.size W wx ∧ wx.cell? ⟨B, i, none⟩ = some (nu (s1 : Int)) ∧ wx.cell? ⟨B, k, none⟩ = some (nu (s2 : Int))) → Hid (RdB wx (.slice xa s1 xc) (rowA s1) ∧ Nz (.slice xa s1 xc)) → Calls Tryd.prog 47 #[nu (s2 : Int)] wx fun e w' => ∃ ya yc, e = .returned (.slice ya s2 yc) ∧ (Below W.heap.size W w' ∧ w'.cell? ⟨B, i, none⟩ = some (nu (s1 : Int)) ∧ w'.cell? ⟨B, k, none⟩ = some (nu (s2 : Int))) ∧ Hid (RdB w' (.slice xa s1 xc) (rowA s1) ∧ Nz (.slice xa s1 xc) ∧ RdB w' (.slice ya s2 yc) (rowA s2) ∧ Nz (.slice ya s2 yc))) := fun wx xa xc h hq => (row_rd s2 wx (by omega)).mono (by
                rintro e w' ⟨ya, yc, rfl, h1, h2, hb⟩
                exact ⟨ya, yc, rfl, hst.out _ (below_fromS h.1 hb), hq.out.1.below hb, hq.out.2, h1, h2⟩)
              have O1 : Hid (∀ wx xa xc ya yc, (Below W.heap.size W wx ∧ wx.cell? ⟨B, i, none⟩ = some (nu (s1 : Int)) ∧ wx.cell? ⟨B, k, none⟩ = some (nu (s2 : Int))) → Hid (RdB wx (.slice xa s1 xc) (rowA s1) ∧ Nz (.slice xa s1 xc) ∧ RdB wx (.slice ya s2 yc) (rowA s2) ∧ Nz (.slice ya s2 yc)) → Calls Tryd.prog 5 #[.agg #[nu 2, nu 2, .int .u32 (i : Int), .slice xa s1 xc], .slice ya s2 yc, nu (c : Int)] wx fun e w' => e = .returned (.bool true) ∧ (Below W.heap.size W w' ∧ w'.cell? ⟨B, i, none⟩ = some (nu (s1 : Int)) ∧ w'.cell? ⟨B, k, none⟩ = some (nu (s2 : Int)))) := fun wx xa xc ya yc h hq => (cO.out wx 2 i _ _ s1 s2 c (below_fromS HB0.out h.1) (by omega) (by omega) (by omega) hq.out.1 hq.out.2.1 hq.out.2.2.1 hq.out.2.2.2).mono (by
                rintro e w' ⟨rfl, hb⟩
                exact ⟨rfl, hst.out _ (below_fromS h.1 hb)⟩)
              have O2 : Hid (∀ wx xa xc ya yc, (Below W.heap.size W wx ∧ wx.cell? ⟨B, i, none⟩ = some (nu (s1 : Int)) ∧ wx.cell? ⟨B, k, none⟩ = some (nu (s2 : Int))) → Hid (RdB wx (.slice xa s1 xc) (rowA s1) ∧ Nz (.slice xa s1 xc) ∧ RdB wx (.slice ya s2 yc) (rowA s2) ∧ Nz (.slice ya s2 yc)) → Calls Tryd.prog 5 #[.agg #[nu 0, nu 2, .int .u32 4294967295, .slice xa s1 xc], .slice ya s2 yc, nu (c : Int)] wx fun e w' => e = .returned (.bool true) ∧ (Below W.heap.size W w' ∧ w'.cell? ⟨B, i, none⟩ = some (nu (s1 : Int)) ∧ w'.cell? ⟨B, k, none⟩ = some (nu (s2 : Int)))) := fun wx xa xc ya yc h hq => (cO.out wx 0 4294967295 _ _ s1 s2 c (below_fromS HB0.out h.1) (by omega) (by omega) (by omega) hq.out.1 hq.out.2.1 hq.out.2.2.1 hq.out.2.2.2).mono (by
                rintro e w' ⟨rfl, hb⟩
                exact ⟨rfl, hst.out _ (below_fromS h.1 hb)⟩)
              have hS0 := hst.out wr.drew HBc.out.drew
              clear hst HZ1 HZ2 HSZ cO
              go_upto_region 11 with fail
              go_wp2_with fail
              go_region_held3 (fun w' => Below W.heap.size W w' ∧ w'.cell? ⟨B, i, none⟩ = some (nu (s1 : Int)) ∧ w'.cell? ⟨B, k, none⟩ = some (nu (s2 : Int))) (first | assumption | fail) (first | (go_at_call 47; with_reducible refine (R1.out _ (by first | assumption | fail)).mono ?_; rintro e w6 ⟨xa, xc, rfl, hS6, hQ6⟩) | (go_at_call 47; with_reducible refine (R2.out _ _ _ (by first | assumption | fail) hQ6).mono ?_; rintro e w7 ⟨ya, yc, rfl, hS7, hQ7⟩) | (go_at_call 5; with_reducible refine (O1.out _ _ _ _ _ (by first | assumption | fail) hQ7).mono ?_; rintro e w8 ⟨rfl, hS8⟩) | (go_at_call 5; with_reducible refine (O2.out _ _ _ _ _ (by first | assumption | fail) hQ7).mono ?_; rintro e w8 ⟨rfl, hS8⟩) | fail)
              have HB8 := Hid.mk' hS8.1
              clear hS0 hS6 hS7 hS8 hQ6 hQ7 R1 R2 O1 O2
              go_wp2
              go_roundw
              case rel => exact ⟨c + 1, by omega, by go_num, HB8⟩
              case measure => simp [intOf]; omega
            · have hc5' : ¬ (c : Int) < 5 := by omega
              go_wp2
              go_roundw
              case rel => exact ⟨k + 1, by omega, by go_num, HBc⟩
              case measure => simp [intOf]; omega
        · have hk7' : ¬ (k : Int) < 7 := by omega
          go_wp2
          go_roundw
          case rel => exact ⟨i + 1, by omega, by go_num, HBk⟩
          case measure => simp [intOf]; omega
    · have hi7' : ¬ (i : Int) < 7 := by omega
      have HBL := Hid.mk' (below_fromS HB0.out HBi.out)
      go_wp2
      go_ret
      exact ⟨rfl, hB ▸ HBL.out⟩
end Ae
end Go.Proofs.YtlgjnefieflmbaaDoor
