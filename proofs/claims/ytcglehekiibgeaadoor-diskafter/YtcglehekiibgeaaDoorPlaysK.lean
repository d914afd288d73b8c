/- Any script, on both disks. -/
import Derived.Test.YtcglehekiibgeaaDoorDoesK
namespace Go.Proofs.YtcglehekiibgeaaDoor
set_option linter.ambiguousOpen false
open Go.RowKit
namespace Dk
open Sm Ft
set_option linter.unusedSimpArgs false
set_option linter.unusedVariables false

/-- An act: its kind, its number, its text. -/
structure Act where
  k : Int
  n : Int
  s : List UInt8

def Act.fits (a : Act) : Prop := (-9223372036854775808 ≤ a.k ∧ a.k ≤ 9223372036854775807) ∧ (-9223372036854775808 ≤ a.n ∧ a.n ≤ 9223372036854775807) ∧ a.s.length ≤ 140737488351232

/-- A list of acts lies here. -/
def RdA (w : World) (v : Value) (l : List Act) : Prop :=
  ∃ a cap, v = .slice a l.length cap ∧ l.length ≤ cap ∧ cap ≤ maxLen ∧ (0 < l.length → ∃ g o, a = some ⟨g, o, none⟩ ∧ g < w.heap.size ∧ ∀ i x, l[i]? = some x → w.cell? ⟨g, o + i * 3, none⟩ = some (nu x.k) ∧ w.cell? ⟨g, o + i * 3 + 1, none⟩ = some (nu x.n) ∧ w.cell? ⟨g, o + i * 3 + 2, none⟩ = some (.string (tx x.s)))

/-- What is asked of a pair and the book at any time of a script. -/
def Going (Rep : World → Nat → (Nat → Prop) → Dsk → Prop) (w wr : World) (p g gb k : Nat) (n : Int) : Prop :=
  ∃ F v d rv vs, St Rep wr w.heap.size p g gb F v d rv vs ∧ d.tr.length ≤ k ∧ vs.length ≤ k ∧ d.n = n ∧ Below w.heap.size w wr

theorem below_of_keep {F : Nat → Prop} {w a b : World} (h : Below w.heap.size w a) (hk : Keep F a b) (hF : ∀ k, F k → w.heap.size ≤ k) : Below w.heap.size w b :=
  h.trans (hk.below (fun k hk hf => by have := hF k hf; omega) h.size)

theorem Going.acted {Rep : World → Nat → (Nat → Prop) → Dsk → Prop} (H : Says Rep) {w wr w' : World} {p g gb k : Nat} {n : Int} {F : Nat → Prop} {v : Value} {d : Dsk} {rv : Value} {vs : List Value} (hS : St Rep wr w.heap.size p g gb F v d rv vs) (h1 : d.tr.length ≤ k) (h2 : vs.length ≤ k) (h3 : d.n = n) (hb : Below w.heap.size w wr)
    (ha : Acted Rep wr w' w.heap.size p g gb F v d rv vs) : Going Rep w w' p g gb (k + 1) n := by
  obtain ⟨F', v', d', rv', vs', a1, a2, a3, a4, a5, a6, a7⟩ := ha
  exact ⟨F', v', d', rv', vs', a1, by omega, by omega, by rw [a7, h3], below_of_keep hb a2 (fun k hk => (hS.lt H k hk).1)⟩

set_option maxRecDepth 100000 in
set_option maxHeartbeats 8000000 in
theorem diskPlays_no {Rep : World → Nat → (Nat → Prop) → Dsk → Prop} (H : Says Rep) (n : Int) (v : Value) (w : World) (h : ¬ (1 ≤ n ∧ n ≤ 4096)) (hE : Er.Handle w) :
    Calls Tryd.prog 3 #[nu n, v] w fun e w' => e = .returned (.bool true) ∧ Below w.heap.size w w' := by
  have c1 := rNew_no n w h
  have c2 := H.newNo n w h
  have c3 : Hid (∀ wx, Below w.heap.size w wx → Calls Tryd.prog 7 #[noE 1, nu 1] wx fun e w' => e = .returned (.bool true) ∧ Below wx.heap.size wx w') := fun wx hb => plainE 1 (by decide) wx (hE.below hb)
  clear h hE H
  go_enter Tryd.func3, Tryd.ntmps3
  go_wp2_with fail
  refine c1.mono ?_
  rintro e w' ⟨rfl, hw⟩
  subst w'
  go_wp2_with fail
  refine c2.mono ?_
  rintro e w2 ⟨rfl, hb2⟩
  have c4 := c3.out w2 hb2
  go_wp2_with fail
  refine c4.mono ?_
  rintro e w3 ⟨rfl, hb3⟩
  have hB3 := Hid.mk' (below_fromR hb2 hb3)
  clear c1 c2 c3 c4 hb2 hb3
  go_wp2
  go_ret
  exact ⟨rfl, hB3.out⟩

set_option maxRecDepth 100000 in
set_option maxHeartbeats 8000000 in
theorem diskPlays_yes {Rep : World → Nat → (Nat → Prop) → Dsk → Prop} (H : Says Rep) (n : Int) (v : Value) (l : List Act) (w : World) (h1 : 1 ≤ n) (h2 : n ≤ 4096) (hR : RdA w v l) (hf : ∀ a ∈ l, a.fits) (hE : Er.Handle w) :
    Calls Tryd.prog 3 #[nu n, v] w fun e w' => e = .returned (.bool true) ∧ Below w.heap.size w w' := by
  have c1 := rNew_yes n w h1 h2
  have HH := Hid.mk' H
  have HE := Hid.mk' hE
  have HF := Hid.mk' hf
  obtain ⟨a, cap, rfl, hl1, hl2, hcell⟩ := hR
  have HC := Hid.mk' hcell
  unfold maxLen at hl2
  clear hE hf H hcell
  go_enter Tryd.func3, Tryd.ntmps3
  go_wp2_with fail
  refine c1.mono ?_
  rintro e w1 ⟨rfl, hR1, hb1⟩
  have c2 := HH.out.newYes n w1 h1 h2
  have HR1 := Hid.mk' hR1
  have HB1 := Hid.mk' hb1
  clear c1 hR1 hb1
  go_wp2_with fail
  refine c2.mono ?_
  rintro e w2 ⟨p, F, rfl, hRep, hF, hb2⟩
  have c3 := plainE 0 (by decide) w2 ((HE.out.below HB1.out).below hb2)
  have HP2 : Hid (Pr Rep w2 w.heap.size p F w.heap.size (.slice none 0 0) ⟨n, -1, []⟩) := ⟨hRep, HR1.out.keep (Keep.of_below (F := fun _ => False) hb2) (fun _ _ hf => hf), fun k hk hr => by
    have h1 := hF k hk
    have h2 := (HR1.out.lt k hr).2
    omega, fun k hk => Nat.le_trans HB1.out.size (hF k hk)⟩
  have HB2 := Hid.mk' (below_fromR HB1.out hb2)
  clear c2 hRep hF hb2 HR1 HB1
  unfold errE at c3
  go_wp2_with fail
  refine c3.mono ?_
  rintro e w3 ⟨rfl, hb3⟩
  have HB3 := Hid.mk' (below_fromR HB2.out hb3)
  have HP3 := Hid.mk' (HP2.out.below HH.out hb3)
  clear c3 hb3 HP2 HB2
  by_cases h3 : 2000 < l.length
  · have h3' : 2000 < (l.length : Int) := by omega
    go_wp2
    go_ret
    exact ⟨rfl, HB3.out⟩
  · have h3' : ¬ 2000 < (l.length : Int) := by omega
    have hb4 : Below w3.heap.size w3 (w3.alloc (.cells (bkC (.slice none 0 0)) 43)) := (Below.refl _ _).alloc (Nat.le_refl _) _
    have hG4 : Hid (Going Rep w (w3.alloc (.cells (bkC (.slice none 0 0)) 43)) p w.heap.size w3.heap.size 0 n) := by
      refine ⟨F, _, ⟨n, -1, []⟩, .slice none 0 0, [], ⟨HP3.out.below HH.out hb4, (bk_new w3).mono HB3.out.size, fun k hk hb => ?_, ⟨by show -1 ≤ -1; omega, by show -1 ≤ 9223372036854775807; omega⟩, ⟨h1, h2⟩, by simp; have := HB3.out.size; omega⟩, Nat.le_refl _, Nat.le_refl _, rfl, below_fromR HB3.out hb4⟩
      have h4 := (HP3.out.lt HH.out k hk).2
      rcases hb with rfl | hb | ⟨x, hx, _⟩
      · omega
      · simp [Value.ownBlock] at hb
      · simp at hx
    clear hb4 HP3
    have hd3 : decide (2000 < (l.length : Int)) = false := by simp; omega
    go_wp2
    clear hd3
    go_loopw [10] (fun iv wr => ∃ k : Nat, k ≤ l.length ∧ iv = nu k ∧ Hid (Going Rep w wr p w.heap.size w3.heap.size k n)) (fun iv _ => l.length - (intOf iv).toNat)
    case atStart => exact ⟨0, Nat.zero_le _, rfl, hG4⟩
    case round =>
      obtain ⟨k, hk, rfl, hG⟩ := hrel
      clear hG4
      obtain ⟨F1, v1, d1, rv1, vs1, hS, t1, t2, t3, hb⟩ := hG.out
      have HS := Hid.mk' hS
      have HB := Hid.mk' hb
      clear hG
      by_cases hq : k < l.length
      · obtain ⟨x, hx⟩ : ∃ x, l[k]? = some x := ⟨_, List.getElem?_eq_getElem hq⟩
        obtain ⟨g, o, rfl, hg, hc⟩ := HC.out (by omega)
        obtain ⟨q0, q1, q2⟩ := hc k x hx
        rw [← hb.cell (p := ⟨g, o + k * 3, none⟩) hg] at q0
        rw [← hb.cell (p := ⟨g, o + k * 3 + 1, none⟩) hg] at q1
        rw [← hb.cell (p := ⟨g, o + k * 3 + 2, none⟩) hg] at q2
        obtain ⟨f1, f2, f3⟩ := HF.out x (List.mem_of_getElem? hx)
        have cD := does_any HH.out wr w.heap.size p w.heap.size w3.heap.size F1 v1 d1 rv1 vs1 x.k x.n x.s hS (by omega) (by omega) f1 f2 (by unfold maxLen; omega) (HE.out.below hb) HE.out.lt
        have hNx : Hid (∀ w', Acted Rep wr w' w.heap.size p w.heap.size w3.heap.size F1 v1 d1 rv1 vs1 → Going Rep w w' p w.heap.size w3.heap.size (k + 1) n) := fun w' ha => Going.acted HH.out HS.out t1 t2 t3 HB.out ha
        clear hS hb hc hx f1 f2 f3
        unfold actV at cD
        generalize x.k = xk at *
        generalize x.n = xn at *
        generalize tx x.s = xs at *
        go_wp2_with fail
        refine cD.mono ?_
        rintro e w5 ⟨rfl, hA⟩
        have hG5 := Hid.mk' (hNx.out w5 hA)
        clear cD hA hNx q0 q1 q2
        go_wp2
        go_roundw
        case rel => exact ⟨k + 1, by omega, vi (by omega), hG5⟩
        case measure => simp [intOf]; omega
      · obtain rfl : k = l.length := by omega
        have c1 := asked_any HH.out wr w.heap.size p F1 w.heap.size v1 d1 w3.heap.size rv1 vs1 hS.pr hS.bk (by omega) (by omega) hS.lo
        clear hS hb
        go_wp2_with fail
        refine c1.mono ?_
        rintro e w5 ⟨rfl, rv5, tv, hB5, hK5, hg5⟩
        have hS5 := HS.out.booked HH.out hB5 hK5 hg5
        have hb5 := below_of_keep HB.out hK5 (fun k hk => (HS.out.bk.lt k hk).1)
        have HS5 := Hid.mk' hS5
        have HB5 := Hid.mk' hb5
        have c2 := read_any HH.out w5 w.heap.size p F1 w.heap.size v1 d1 hS5.pr (by omega) hS5.num (HE.out.below hb5)
        clear c1 hB5 hK5 hg5 hS5 hb5 HS HB
        go_wp2_with fail
        refine c2.mono ?_
        rintro e w6 ⟨rfl, hb6⟩
        have hS6 := HS5.out.below HH.out hb6
        have HS6 := Hid.mk' hS6
        have HB6 := Hid.mk' (below_fromR HB5.out hb6)
        have c3 := bookApart_any w6 w.heap.size w3.heap.size rv5 (vs1 ++ [tv]) hS6.bk (by simp; omega) hS6.lo
        clear c2 hb6 hS6 HS5 HB5
        go_wp2_with fail
        refine c3.mono ?_
        rintro e w7 ⟨rfl, hK7, hB7⟩
        have hP7 := HS6.out.pr.keep HH.out hK7 (fun k hp hw => HS6.out.ap k hp (.inr (.inr hw)))
        have HB7 := Hid.mk' (below_of_keep HB6.out hK7 (fun k hk => (HS6.out.bk.lt k (.inr (.inr hk))).1))
        have hlo7 : w.heap.size ≤ w7.heap.size := HB7.out.size
        have c4 := asked_any HH.out w7 w.heap.size p F1 w.heap.size v1 d1 w3.heap.size rv5 (vs1 ++ [tv]) hP7 hB7 (by omega) (by simp; omega) hlo7
        have hlt7 : Hid (∀ k, bfp w3.heap.size rv5 (vs1 ++ [tv]) k → w.heap.size ≤ k) := fun k hk => (HS6.out.bk.lt k hk).1
        clear c3 hK7 hB7 hP7 HS6 HB6
        go_wp2_with fail
        refine c4.mono ?_
        rintro e w8 ⟨rfl, rv8, tv8, hB8, hK8, hg8⟩
        have HB8 := Hid.mk' (below_of_keep HB7.out hK8 hlt7.out)
        clear c4 hB8 hK8 hg8
        go_wp2
        go_ret
        exact ⟨rfl, HB8.out⟩
end Dk
end Go.Proofs.YtcglehekiibgeaaDoor
