/- The walk of the law NamesWhich. -/
import Derived.Test.YtlfoipddhcdmmaaApart
import Derived.Test.YtlfoipddhcdmmaaRefs
namespace Go.Proofs.Ytlfoipddhcdmmaa
open Go.RowKit
namespace Nm

theorem two_ls {w : World} {base : Nat} {va vb : Value} {n : Nat} {xs : List Value} (ha : w.ownsRow base 9 1 va n xs) (hb : w.ownsRow base 9 1 vb n xs) (hle : base ≤ w.heap.size) :
    Ls (w.alloc (.cells #[va, vb] 22)) base w.heap.size [va, vb] (fun _ => n) (fun _ => xs) := by
  refine ⟨?_, ?_, by simp, by simp; omega⟩
  · intro l hl
    match l, hl with
    | 0, _ => exact ha.alloc _
    | 1, _ => exact hb.alloc _
  · intro l hl
    match l, hl with
    | 0, _ => simp
    | 1, _ => simp

theorem two_apart {w : World} {base : Nat} {va vb : Value} {n : Nat} {xs : List Value} (ha : w.ownsRow base 9 1 va n xs) (hb : w.ownsRow base 9 1 vb n xs) (hs : Sep va vb) : Apart w.heap.size [va, vb] := by
  refine ⟨?_, ?_⟩
  · intro l m hl hm hne
    match l, m, hl, hm with
    | 0, 0, _, _ => exact absurd rfl hne
    | 0, 1, _, _ => exact hs
    | 1, 0, _, _ => exact hs.symm
    | 1, 1, _, _ => exact absurd rfl hne
  · intro l hl
    match l, hl with
    | 0, _ => intro e; have := (ha.lt _ e).2; omega
    | 1, _ => intro e; have := (hb.lt _ e).2; omega

theorem sep_later {w w' : World} {B : Nat} {va vb : Value} {n m : Nat} {e e' : TypeId} {xs ys : List Value} {b0 : Nat} (ha : w.ownsRow b0 e 1 va n xs) (hb : w'.ownsRow B e' 1 vb m ys) (h : w.heap.size ≤ B) : Sep va vb := by
  intro b h1 h2
  have := (ha.lt b h1).2
  have := (hb.lt b h2).1
  omega

set_option maxRecDepth 1000000 in
set_option maxHeartbeats 4000000 in
theorem namesWhich_walk (l : List UInt8) (w : World) (hl : l.length ≤ maxLen) :
    Calls Try.prog 3 #[.string (B l)] w fun e w' => e = .returned (.bool true) ∧ Below w.heap.size w w' := by
  have HL : Hid (l.length ≤ maxLen) := hl
  clear hl
  by_cases h1 : 16777216 < (B l).size
  · go_enter Try.func3, Try.ntmps3
    go_wp2
    go_ret
    exact ⟨rfl, Below.refl _ _⟩
  have HC : Hid ((partsL l).length ≤ 4) := parts_count l
  go_enter Try.func3, Try.ntmps3
  go_wp2_with fail
  refine (rparts_l _ _ HL.out).mono ?_
  rintro e w1 ⟨v1, rfl, hown1, q1⟩
  go_wp2_with fail
  refine (parts_l _ _ HL.out).mono ?_
  rintro e w2 ⟨v2, rfl, hown2, q2⟩
  go_wp2_with fail
  refine (parts_l _ _ HL.out).mono ?_
  rintro e w3 ⟨v3, rfl, hown3, q3⟩
  have hsep : Hid (Sep v2 v3) := sep_later hown2 hown3 (Nat.le_refl _)
  go_wp2_with fail
  refine (name_l _ _ HL.out).mono ?_
  rintro e w4 ⟨rfl, q4⟩
  go_wp2_with fail
  refine (rname_l _ _ HL.out).mono ?_
  rintro e w5 ⟨rfl, rfl⟩
  generalize nameB l = nb
  go_wp2_with fail
  refine (dotted_l _ _ HL.out).mono ?_
  rintro e w6 ⟨rfl, q6⟩
  go_wp2_with fail
  refine (rdotted_l _ _ HL.out).mono ?_
  rintro e w7 ⟨rfl, q7⟩
  generalize dottedB l = db
  have hr1 : Rd w7 v1 (partsL l) := (rd_own hown1).below (below_then (below_then (below_then (below_then q2 q3) q4) q6) q7)
  have hr2 : Rd w7 v2 (partsL l) := (rd_own hown2).below (below_then (below_then (below_then q3 q4) q6) q7)
  have hr3 : Rd w7 v3 (partsL l) := (rd_own hown3).below (below_then (below_then q4 q6) q7)
  have ho2 : w7.ownsRow w.heap.size 9 1 v2 (partsL l).length ((partsL l).map txt) := own_base (own_below hown2 (below_then (below_then (below_then q3 q4) q6) q7)) q1.size
  have ho3 : w7.ownsRow w.heap.size 9 1 v3 (partsL l).length ((partsL l).map txt) := own_base (own_below hown3 (below_then (below_then q4 q6) q7)) (Nat.le_trans q1.size q2.size)
  have HR1 : Hid (Rd w7 v1 (partsL l)) := hr1
  have HR2 : Hid (Rd w7 v2 (partsL l)) := hr2
  have HR3 : Hid (Rd w7 v3 (partsL l)) := hr3
  have HO2 : Hid (w7.ownsRow w.heap.size 9 1 v2 (partsL l).length ((partsL l).map txt)) := ho2
  have HO3 : Hid (w7.ownsRow w.heap.size 9 1 v3 (partsL l).length ((partsL l).map txt)) := ho3
  have hbel : Hid (Below w.heap.size w w7) := below_then (below_then (below_then (below_then (below_then q1 q2) q3) q4) q6) q7
  clear q1 q2 q3 q4 q6 q7 hown1 hown2 hown3 hr1 hr2 hr3 ho2 ho3
  go_wp2_with fail
  refine (same_l _ _ (partsL l) (partsL l) _ HR2.out HR1.out).mono ?_
  rintro e w8 ⟨rfl, n8, hw8⟩
  rw [decide_eq_true (rfl : partsL l = partsL l)]
  have q8 : Hid (Below w7.heap.size w7 w8) := by rw [hw8]; exact below_drewN (Below.refl _ _) _
  clear hw8
  go_wp2_with fail
  refine (same_l _ _ (partsL l) (partsL l) _ (HR3.out.below q8.out) (HR1.out.below q8.out)).mono ?_
  rintro e w9 ⟨rfl, n9, hw9⟩
  rw [decide_eq_true (rfl : partsL l = partsL l)]
  have q9 : Hid (Below w7.heap.size w7 w9) := by rw [hw9]; exact below_drewN q8.out _
  clear hw9 q8
  have O2 := own_below HO2.out q9.out
  have O3 := own_below HO3.out q9.out
  obtain ⟨a2, c2, hv2, _⟩ := own_shape O2
  obtain ⟨a3, c3, hv3, _⟩ := own_shape O3
  have P2 : Hid (w9.ownsRow w.heap.size 9 1 v2 (partsL l).length ((partsL l).map txt)) := O2
  have P3 : Hid (w9.ownsRow w.heap.size 9 1 v3 (partsL l).length ((partsL l).map txt)) := O3
  have hb9 : Hid (Below w.heap.size w w9) := below_then hbel.out q9.out
  clear O2 O3 HR1 HR2 HR3 HO2 HO3 q9 hbel
  subst hv2
  subst hv3
  have HLS := two_ls P2.out P3.out hb9.out.size
  have HAP := two_apart P2.out P3.out hsep.out
  go_wp2_with fail
  refine (apart_l [.slice a2 (partsL l).length c2, .slice a3 (partsL l).length c3] _ w.heap.size w9.heap.size _ _ HLS HAP (by simp) (fun _ => by have := HC.out; omega)).mono ?_
  rintro e w10 ⟨rfl, q10⟩
  go_wp2
  go_ret
  exact ⟨rfl, (Below.alloc hb9.out hb9.out.size _).trans q10⟩
end Nm
end Go.Proofs.Ytlfoipddhcdmmaa
