/- The disk behind its first raw writes, on both sides. -/
import Derived.Test.YtcglehekiibgeaaDoorTwoK
namespace Go.Proofs.YtcglehekiibgeaaDoor
set_option linter.ambiguousOpen false
open Go.RowKit
namespace Dk
open Sm Ft
set_option linter.unusedSimpArgs false
set_option linter.unusedVariables false

set_option maxRecDepth 100000 in
set_option maxHeartbeats 8000000 in
theorem diskAfter_no {Rep : World → Nat → (Nat → Prop) → Dsk → Prop} (H : Says Rep) (n at_ : Int) (v v2 : Value) (w : World) (h : ¬ (1 ≤ n ∧ n ≤ 4096)) :
    Calls Tryd.prog 4 #[nu n, v, nu at_, v2] w fun e w' => e = .returned (.bool true) ∧ Below w.heap.size w w' := by
  have c1 := rNew_no n w h
  have c2 := H.newNo n w h
  clear h H
  go_enter Tryd.func4, Tryd.ntmps4
  go_wp2_with fail
  refine c1.mono ?_
  rintro e w' ⟨rfl, hw⟩
  subst w'
  go_wp2_with fail
  refine c2.mono ?_
  rintro e w2 ⟨rfl, hb2⟩
  go_wp2
  go_ret
  exact ⟨rfl, hb2⟩

set_option maxRecDepth 100000 in
set_option maxHeartbeats 8000000 in
theorem diskAfter_long {Rep : World → Nat → (Nat → Prop) → Dsk → Prop} (H : Says Rep) (n at_ : Int) (a a2 : Option Addr) (len len2 cap cap2 : Nat) (w : World) (h1 : 1 ≤ n) (h2 : n ≤ 4096) (hl1 : len ≤ cap) (hl2 : cap ≤ maxLen) (hm1 : len2 ≤ cap2) (hm2 : cap2 ≤ maxLen) (hh : 2000 < len ∨ 2000 < len2) :
    Calls Tryd.prog 4 #[nu n, .slice a len cap, nu at_, .slice a2 len2 cap2] w fun e w' => e = .returned (.bool true) ∧ Below w.heap.size w w' := by
  have c1 := rNew_yes n w h1 h2
  have HH := Hid.mk' H
  unfold maxLen at hl2 hm2
  clear H
  by_cases hc : 2000 < len
  · have hc' : 2000 < (len : Int) := by omega
    clear hh
    go_enter Tryd.func4, Tryd.ntmps4
    go_wp2_with fail
    refine c1.mono ?_
    rintro e w1 ⟨rfl, hR1, hb1⟩
    have c2 := HH.out.newYes n w1 h1 h2
    go_wp2_with fail
    refine c2.mono ?_
    rintro e w2 ⟨p, F, rfl, hRep, hF, hb2⟩
    have hB := Hid.mk' (below_fromR hb1 hb2)
    clear hR1 hRep hF hb1 hb2 c1 c2
    go_wp2
    go_ret
    exact ⟨rfl, hB.out⟩
  · have hc' : ¬ 2000 < (len : Int) := by omega
    have hc2 : 2000 < (len2 : Int) := by omega
    clear hh
    go_enter Tryd.func4, Tryd.ntmps4
    go_wp2_with fail
    refine c1.mono ?_
    rintro e w1 ⟨rfl, hR1, hb1⟩
    have c2 := HH.out.newYes n w1 h1 h2
    go_wp2_with fail
    refine c2.mono ?_
    rintro e w2 ⟨p, F, rfl, hRep, hF, hb2⟩
    have hB := Hid.mk' (below_fromR hb1 hb2)
    clear hR1 hRep hF hb1 hb2 c1 c2
    go_wp2
    go_ret
    exact ⟨rfl, hB.out⟩

theorem add_bang (s : List UInt8) (h : s.length ≤ 140737488351232) (w : World) : (binOp .add 9 (.string (tx s)) (.string ⟨#[33]⟩)).run Tryd.prog w = .ok (.string (tx (s ++ [33]))) w := by
  have hz : (tx s).size = s.length := rfl
  have h1 : (⟨#[33]⟩ : ByteArray).size = 1 := rfl
  have h2 : ¬ 9223372036854775807 < s.length + 1 := by omega
  have e : tx s ++ (⟨#[33]⟩ : ByteArray) = tx (s ++ [33]) := by
    apply ByteArray.ext
    simp
  simp [go_sem, Tryd.underlying9, hz, h1, h2, e]

theorem tx_bang (s : List UInt8) : tx s ++ (⟨#[33]⟩ : ByteArray) = tx (s ++ [33]) := by
  apply ByteArray.ext
  simp

set_option maxRecDepth 100000 in
set_option maxHeartbeats 16000000 in
theorem diskAfter_yes {Rep : World → Nat → (Nat → Prop) → Dsk → Prop} (H : Says Rep) (n at_ : Int) (v v2 : Value) (l l2 : List Act) (w : World) (h1 : 1 ≤ n) (h2 : n ≤ 4096) (ha : -9223372036854775808 ≤ at_ ∧ at_ ≤ 9223372036854775807) (hR : RdA w v l) (hf : ∀ a ∈ l, a.fits) (hR2 : RdA w v2 l2) (hf2 : ∀ a ∈ l2, a.fits) (hE : Er.Handle w) (hs1 : ¬ 2000 < l.length) (hs2 : ¬ 2000 < l2.length) :
    Calls Tryd.prog 4 #[nu n, v, nu at_, v2] w fun e w' => e = .returned (.bool true) ∧ Below w.heap.size w w' := by
  have c1 := rNew_yes n w h1 h2
  have HH := Hid.mk' H
  have HE := Hid.mk' hE
  have HF := Hid.mk' hf
  have HF2 := Hid.mk' hf2
  obtain ⟨a, cap, rfl, hl1, hl2, hcell⟩ := hR
  obtain ⟨a2, cap2, rfl, hm1, hm2, hcell2⟩ := hR2
  have HC := Hid.mk' hcell
  have HC2 := Hid.mk' hcell2
  unfold maxLen at hl2 hm2
  clear hE hf hf2 H hcell hcell2
  go_enter Tryd.func4, Tryd.ntmps4
  go_wp2_with fail
  refine c1.mono ?_
  rintro e w1 ⟨rfl, hR1, hb1⟩
  have c2 := HH.out.newYes n w1 h1 h2
  have HR1 := Hid.mk' hR1
  have HB1 := Hid.mk' hb1
  clear c1 hR1 hb1
  go_wp2_with fail
  refine c2.mono ?_
  rintro e w3 ⟨p, F, rfl, hRep, hF, hb2⟩
  have HP3 : Hid (Pr Rep w3 w.heap.size p F w.heap.size (.slice none 0 0) ⟨n, -1, []⟩) := ⟨hRep, HR1.out.keep (Keep.of_below (F := fun _ => False) hb2) (fun _ _ hf => hf), fun k hk hr => by
    have h1 := hF k hk
    have h2 := (HR1.out.lt k hr).2
    omega, fun k hk => Nat.le_trans HB1.out.size (hF k hk)⟩
  have HB3 := Hid.mk' (below_fromR HB1.out hb2)
  clear c2 hRep hF hb2 HR1 HB1
  have hb4 : Below w3.heap.size w3 (w3.alloc (.cells (bkC (.slice none 0 0)) 43)) := (Below.refl _ _).alloc (Nat.le_refl _) _
  have hG4 : Hid (Going Rep w (w3.alloc (.cells (bkC (.slice none 0 0)) 43)) p w.heap.size w3.heap.size 0 n) := by
    refine ⟨F, _, ⟨n, -1, []⟩, .slice none 0 0, [], ⟨HP3.out.below HH.out hb4, (bk_new w3).mono HB3.out.size, fun k hk hb => ?_, ⟨by show -1 ≤ -1; omega, by show -1 ≤ 9223372036854775807; omega⟩, ⟨h1, h2⟩, by simp; have := HB3.out.size; omega⟩, Nat.le_refl _, Nat.le_refl _, rfl, below_fromR HB3.out hb4⟩
    have h4 := (HP3.out.lt HH.out k hk).2
    rcases hb with rfl | hb | ⟨x, hx, _⟩
    · omega
    · simp [Value.ownBlock] at hb
    · simp at hx
  clear hb4 HP3
  have hd3 : decide (2000 < (l.length : Int)) = false := by simp; omega
  have hd4 : decide (2000 < (l2.length : Int)) = false := by simp; omega
  go_wp2
  clear hd3 hd4
  go_loopw [14] (fun iv wr => ∃ k : Nat, k ≤ l.length ∧ iv = nu k ∧ Hid (Going Rep w wr p w.heap.size w3.heap.size k n)) (fun iv _ => l.length - (intOf iv).toNat)
  case atStart => exact ⟨0, Nat.zero_le _, rfl, hG4⟩
  case round =>
    obtain ⟨k, hk, rfl, hG⟩ := hrel
    clear hG4
    obtain ⟨F1, v1, d1, rv1, vs1, hS, t1, t2, t3, hb⟩ := hG.out
    have HS := Hid.mk' hS
    have HB := Hid.mk' hb
    clear hG
    by_cases hq : k < l.length
    · obtain ⟨x, hx⟩ : ∃ x, l[k]? = some x := ⟨_, List.getElem?_eq_getElem hq⟩
      obtain ⟨g, o, rfl, hg, hc⟩ := HC.out (by omega)
      obtain ⟨q0, q1, q2⟩ := hc k x hx
      rw [← hb.cell (p := ⟨g, o + k * 3, none⟩) hg] at q0
      rw [← hb.cell (p := ⟨g, o + k * 3 + 1, none⟩) hg] at q1
      rw [← hb.cell (p := ⟨g, o + k * 3 + 2, none⟩) hg] at q2
      obtain ⟨f1, f2, f3⟩ := HF.out x (List.mem_of_getElem? hx)
      have cD := does_any HH.out wr w.heap.size p w.heap.size w3.heap.size F1 v1 d1 rv1 vs1 x.k x.n x.s hS (by omega) (by omega) f1 f2 (by unfold maxLen; omega) (HE.out.below hb) HE.out.lt
      have hNx : Hid (∀ w', Acted Rep wr w' w.heap.size p w.heap.size w3.heap.size F1 v1 d1 rv1 vs1 → Going Rep w w' p w.heap.size w3.heap.size (k + 1) n) := fun w' ha => Going.acted HH.out HS.out t1 t2 t3 HB.out ha
      clear hS hb hc hx f1 f2 f3
      unfold actV at cD
      generalize x.k = xk at *
      generalize x.n = xn at *
      generalize tx x.s = xs at *
      go_wp2_with fail
      refine cD.mono ?_
      rintro e w5 ⟨rfl, hA⟩
      have hG5 := Hid.mk' (hNx.out w5 hA)
      clear cD hA hNx q0 q1 q2
      go_wp2
      go_roundw
      case rel => exact ⟨k + 1, by omega, vi (by omega), hG5⟩
      case measure => simp [intOf]; omega
    · obtain rfl : k = l.length := by omega
      by_cases hat : 0 ≤ at_ ∧ at_ ≤ d1.tr.length
      · obtain ⟨m, rfl⟩ : ∃ m : Nat, at_ = m := ⟨at_.toNat, by omega⟩
        have hmt : m ≤ d1.tr.length := by omega
        have c1 := rAfter_yes d1 w.heap.size w.heap.size v1 m wr hS.pr.ref (by omega) hmt
        clear hS hb
        go_wp2_with fail
        refine c1.mono ?_
        rintro e w5 ⟨g5, v5, rfl, hR5, hb5⟩
        have hS5 := HS.out.below HH.out hb5
        have c2 := HH.out.afterYes w5 p F1 d1 m hS5.pr.rep (by omega) hmt
        have HR5 := Hid.mk' hR5
        have HS5 := Hid.mk' hS5
        have HB5 := Hid.mk' (below_fromR HB.out hb5)
        have hz5 : Hid (wr.heap.size ≤ w5.heap.size) := hb5.size
        have hzw : Hid (w.heap.size ≤ wr.heap.size) := HB.out.size
        have hltr : Hid (∀ x, afp F1 w.heap.size v1 w3.heap.size rv1 vs1 x → x < wr.heap.size) := fun x hx => (HS.out.lt HH.out x hx).2
        clear c1 hR5 hb5 hS5 HS HB
        go_wp2_with fail
        refine c2.mono ?_
        rintro e w6 ⟨q, G6, rfl, hRep6, hG6, hb6⟩
        have HB6 := Hid.mk' (below_fromR HB5.out hb6)
        have hD6 : Hid (Duo Rep w w6 w3.heap.size p w.heap.size q g5 l.length) := by
          have hS6 := HS5.out.below HH.out hb6
          have hR6 := HR5.out.keep (Keep.of_below (F := fun _ => False) hb6) (fun _ _ hf => hf)
          have hr5 : ∀ x, rfp g5 v5 x → wr.heap.size ≤ x ∧ x < w5.heap.size := fun x hx => HR5.out.lt x hx
          have hP6 : Pr Rep w6 w.heap.size q G6 g5 v5 ⟨d1.n, -1, d1.tr.take m⟩ := ⟨hRep6, hR6.mono hzw.out, fun x hx hr => by
            have h1 := hG6 x hx
            have h2 := (hr5 x hr).2
            omega, fun x hx => by
            have h1 := hG6 x hx
            have h2 := hz5.out
            have h3 := hzw.out
            omega⟩
          have hfr : ∀ x, pfp G6 g5 v5 x → wr.heap.size ≤ x := fun x hx => by
            rcases hx with hx | hx
            · have h1 := hG6 x hx
              have h2 := hz5.out
              omega
            · exact (hr5 x hx).1
          refine ⟨F1, v1, d1, G6, v5, ⟨d1.n, -1, d1.tr.take m⟩, rv1, vs1, ⟨hS6, ⟨hP6, hS6.bk, fun x hx hbx => ?_, ⟨by show -1 ≤ -1; omega, by show -1 ≤ 9223372036854775807; omega⟩, hS6.num, hS6.lo⟩, fun x hx hx2 => ?_⟩, t1, ?_, t2, HB6.out⟩
          · have h1 := hfr x hx
            have h2 := hltr.out x (.inr hbx)
            omega
          · have h1 := hfr x hx2
            have h2 := hltr.out x (.inl hx)
            omega
          · show (d1.tr.take m).length ≤ _
            rw [List.length_take]; omega
        have c3 := plainE 0 (by decide) w6 (HE.out.below HB6.out)
        clear c2 hRep6 hG6 hb6 HR5 HS5 HB5 HB6 hz5 hzw hltr
        unfold errE at c3
        go_wp2_with fail
        refine c3.mono ?_
        rintro e w7 ⟨rfl, hb7⟩
        have hD7 := Hid.mk' (hD6.out.below HH.out hb7)
        clear c3 hb7 hD6
        go_wp2
        rename World => w8
        go_loopw [19] (fun iv wr => ∃ k : Nat, k ≤ l2.length ∧ iv = nu k ∧ Hid (Duo Rep w wr w3.heap.size p w.heap.size q g5 (l.length + k))) (fun iv _ => l2.length - (intOf iv).toNat)
        case atStart => exact ⟨0, Nat.zero_le _, rfl, hD7⟩
        case round =>
          obtain ⟨k, hk2, rfl, hD⟩ := hrel
          clear hD7
          by_cases hq2 : k < l2.length
          · obtain ⟨x, hx⟩ : ∃ x, l2[k]? = some x := ⟨_, List.getElem?_eq_getElem hq2⟩
            obtain ⟨g, o, rfl, hg, hc⟩ := HC2.out (by omega)
            obtain ⟨q0, q1, q2⟩ := hc k x hx
            have hb := hD.out.below'
            rw [← hb.cell (p := ⟨g, o + k * 3, none⟩) hg] at q0
            rw [← hb.cell (p := ⟨g, o + k * 3 + 1, none⟩) hg] at q1
            rw [← hb.cell (p := ⟨g, o + k * 3 + 2, none⟩) hg] at q2
            have cD := duo_does HH.out hD.out (by omega) HE.out x (HF2.out x (List.mem_of_getElem? hx))
            clear hb hc hx hD
            unfold actV at cD
            generalize x.k = xk at *
            generalize x.n = xn at *
            generalize tx x.s = xs at *
            go_wp2_with fail
            refine cD.mono ?_
            rintro e w5 ⟨rfl, hA⟩
            have hD5 := Hid.mk' hA
            clear cD hA q0 q1 q2
            go_wp2
            go_roundw
            case rel => exact ⟨k + 1, by omega, vi (by omega), hD5⟩
            case measure => simp [intOf]; omega
          · obtain rfl : k = l2.length := by omega
            have c4 := duo_asked HH.out hD.out.swap (by omega)
            clear hD
            go_wp2_with fail
            refine c4.mono ?_
            rintro e w9 ⟨rfl, hD9⟩
            have c5 := duo_read HH.out hD9 (by omega) HE.out
            clear c4 hD9
            go_wp2_with fail
            refine c5.mono ?_
            rintro e w10 ⟨rfl, hD10⟩
            have hDA := Hid.mk' hD10
            clear c5 hD10
            go_wp2
            rename World => w11
            go_loopw [20, 21] (fun iv _ wr => ∃ k : Nat, k ≤ l2.length ∧ iv = nu k ∧ Hid (Duo Rep w wr w3.heap.size q g5 p w.heap.size (l.length + l2.length + 1 + k))) (fun iv _ _ => l2.length - (intOf iv).toNat)
            case atStart => exact ⟨0, Nat.zero_le _, rfl, hDA⟩
            case round =>
              obtain ⟨k, hk3, rfl, hD⟩ := hrel
              clear hDA
              by_cases hq3 : k < l2.length
              · obtain ⟨x, hx⟩ : ∃ x, l2[k]? = some x := ⟨_, List.getElem?_eq_getElem hq3⟩
                obtain ⟨g, o, rfl, hg, hc⟩ := HC2.out (by omega)
                obtain ⟨q0, q1, q2⟩ := hc k x hx
                have hb := hD.out.below'
                rw [← hb.cell (p := ⟨g, o + k * 3, none⟩) hg] at q0
                rw [← hb.cell (p := ⟨g, o + k * 3 + 1, none⟩) hg] at q1
                rw [← hb.cell (p := ⟨g, o + k * 3 + 2, none⟩) hg] at q2
                obtain ⟨f1, f2, f3⟩ := HF2.out x (List.mem_of_getElem? hx)
                have hlen : ¬ 9223372036854775807 < (tx x.s).size + 1 := by
                  have : (tx x.s).size = x.s.length := rfl
                  omega
                have z0 : (0 : Int) ≤ (k : Int) := by omega
                have z1 : (k : Int) < (l2.length : Int) := by omega
                clear q0 hb hc hx
                have HX := Hid.mk' (tx_bang x.s)
                obtain ⟨F2, v2, d2, G2, u2, e2, rv2, vs2, tw, b1, b2, b3, hb⟩ := hD.out
                have hb0 : Below wr.heap.size wr (wr.alloc (.cells #[nu x.n, .string (tx (x.s ++ [33]))] 53)).drew := ((Below.refl _ _).alloc (Nat.le_refl _) _).drew
                have hA0 : (wr.alloc (.cells #[nu x.n, .string (tx (x.s ++ [33]))] 53)).drew.heap[wr.heap.size]? = some (.cells #[nu x.n, .string (tx (x.s ++ [33]))] 53) := heap_alloc_new _ _
                obtain ⟨w0, hw0⟩ : ∃ w0, (wr.alloc (.cells #[nu x.n, .string (tx (x.s ++ [33]))] 53)).drew = w0 := ⟨_, rfl⟩
                rw [hw0] at hb0 hA0
                have a0 : w0.cell? ⟨wr.heap.size, 0, none⟩ = some (nu x.n) := by simp [World.cell?, hA0]
                have a1 : w0.cell? ⟨wr.heap.size, 1, none⟩ = some (.string (tx (x.s ++ [33]))) := by simp [World.cell?, hA0]
                obtain ⟨D1, D2, D3⟩ := writes_c HH.out wr w0 w.heap.size q g5 w3.heap.size F2 v2 d2 rv2 vs2 wr.heap.size 0 1 x.n (x.s ++ [33]) tw.st (by omega) f2 (by unfold maxLen; simp; omega) (HE.out.below hb) HE.out.lt hb0 (Nat.le_refl _) a0 a1
                have C1 := Hid.mk' D1
                have C2 := Hid.mk' D2
                have C3 := Hid.mk' D3
                have hNx : Hid (∀ w', Acted Rep wr w' w.heap.size q g5 w3.heap.size F2 v2 d2 rv2 vs2 → Duo Rep w w' w3.heap.size q g5 p w.heap.size (l.length + l2.length + 1 + k + 1)) := fun w' ha => Duo.acted HH.out tw b1 b2 b3 hb ha
                have HW0 := Hid.mk' hw0
                have hB1 : Hid (Below w0.heap.size w0 w0.drew) := (Below.refl _ _).drew
                have hS1 : w0.drew.cell? ⟨wr.heap.size, 0, none⟩ = some (nu x.n) ∧ w0.drew.cell? ⟨wr.heap.size, 1, none⟩ = some (.string (tx (x.s ++ [33]))) := ⟨a0, a1⟩
                clear D1 D2 D3 hb0 hA0 hw0 tw b1 b2 b3 hb hD f1 f2 f3
                generalize errE (wrN d2 x.n (x.s ++ [33])) = en at *
                generalize (wrN d2 x.n (x.s ++ [33]) : Int) = no at *
                generalize x.n = xn at *
                generalize tx (x.s ++ [33]) = xt at *
                generalize tx x.s = xs at *
                have hgr : g < wr.heap.size := World.block_lt_of_cell? wr _ q1
                have q1a : (wr.alloc (.cells #[.int .i64 0, .string ⟨#[]⟩] 53)).cell? ⟨g, o + k * 3 + 1, none⟩ = some (nu xn) := (World.cell?_alloc_lt _ _ _ hgr).trans q1
                have q2a : (wr.alloc (.cells #[.int .i64 0, .string ⟨#[]⟩] 53)).cell? ⟨g, o + k * 3 + 2, none⟩ = some (.string xs) := (World.cell?_alloc_lt _ _ _ hgr).trans q2
                go_wp2_with fail
                go_region
                rw [HX.out, HW0.out]
                clear q1 q2 q1a q2a HX HW0 hlen
                go_wp2_with fail
                go_region_held3 (fun w' => w'.cell? ⟨wr.heap.size, 0, none⟩ = some (nu xn) ∧ w'.cell? ⟨wr.heap.size, 1, none⟩ = some (.string xt)) (first | assumption | fail) (first | (go_at_call 14; with_reducible refine (C1.out _ hB1.out).mono ?_; rintro e wa ⟨rfl, hHa, hSa⟩) | (go_at_call 15; with_reducible refine (C2.out _ hHa hSa).mono ?_; rintro e wb ⟨rfl, hAb, hEb, hSb⟩) | (go_at_call 7; with_reducible refine (C3.out _ hAb hEb hSb).mono ?_; rintro e wc ⟨rfl, hAc, hSc⟩) | fail)
                have hDn := Hid.mk' (hNx.out _ hAc)
                clear hHa hSa hAb hEb hSb hAc hSc C1 C2 C3 hS1 hB1 a0 a1 hNx
                go_wp2
                go_roundw
                case rel => exact ⟨k + 1, by omega, vi (by omega), hDn⟩
                case measure => simp [intOf]; omega
              · obtain rfl : k = l2.length := by omega
                have c6 := duo_asked HH.out hD.out.swap (by omega)
                clear hD
                go_wp2_with fail
                refine c6.mono ?_
                rintro e w12 ⟨rfl, hD12⟩
                have c7 := duo_asked HH.out hD12.swap (by omega)
                clear c6 hD12
                go_wp2_with fail
                refine c7.mono ?_
                rintro e w13 ⟨rfl, hD13⟩
                have c8 := duo_read HH.out hD13.swap (by omega) HE.out
                clear c7 hD13
                go_wp2_with fail
                refine c8.mono ?_
                rintro e w14 ⟨rfl, hD14⟩
                have c9 := duo_read HH.out hD14.swap (by omega) HE.out
                clear c8 hD14
                go_wp2_with fail
                refine c9.mono ?_
                rintro e w15 ⟨rfl, hD15⟩
                have c10 := duo_apart HH.out hD15 (by omega)
                clear c9 hD15
                go_wp2_with fail
                refine c10.mono ?_
                rintro e w16 ⟨rfl, hb16⟩
                have HB16 := Hid.mk' hb16
                clear c10 hb16
                go_wp2
                go_ret
                exact ⟨rfl, HB16.out⟩
      · have c1 := rAfter_no d1 w.heap.size w.heap.size v1 at_ wr hS.pr.ref (by omega) hat
        have c2 := HH.out.afterNo wr p F1 d1 at_ hS.pr.rep (by omega) ha hat
        have c3 : Hid (∀ wx, Below wr.heap.size wr wx → Calls Tryd.prog 7 #[noE 1, nu 1] wx fun e w' => e = .returned (.bool true) ∧ Below wx.heap.size wx w') := fun wx hbx => plainE 1 (by decide) wx (HE.out.below (below_fromR hb hbx))
        clear hS hb hat
        go_wp2_with fail
        refine c1.mono ?_
        rintro e w' ⟨rfl, hw⟩
        subst w'
        go_wp2_with fail
        refine c2.mono ?_
        rintro e w5 ⟨rfl, hb5⟩
        have c4 := c3.out w5 hb5
        have HB5 : Hid (Below wr.heap.size wr w5) := hb5
        clear c1 c2 c3 hb5
        go_wp2_with fail
        refine c4.mono ?_
        rintro e w6 ⟨rfl, hb6⟩
        have hb16 := below_fromR HB5.out hb6
        have hS6 := HS.out.below HH.out hb16
        have c5 := asked_any HH.out w6 w.heap.size p F1 w.heap.size v1 d1 w3.heap.size rv1 vs1 hS6.pr hS6.bk (by omega) (by omega) hS6.lo
        have HB6 := Hid.mk' (below_fromR HB.out hb16)
        have hlt6 : Hid (∀ k, bfp w3.heap.size rv1 vs1 k → w.heap.size ≤ k) := fun k hk => (HS.out.bk.lt k hk).1
        clear c4 hb6 hb16 hS6 HB5
        go_wp2_with fail
        refine c5.mono ?_
        rintro e w8 ⟨rfl, rv8, tv8, hB8, hK8, hg8⟩
        have HB8 := Hid.mk' (below_of_keep HB6.out hK8 hlt6.out)
        clear c5 hB8 hK8 hg8
        go_wp2
        go_ret
        exact ⟨rfl, HB8.out⟩
end Dk
end Go.Proofs.YtcglehekiibgeaaDoor
