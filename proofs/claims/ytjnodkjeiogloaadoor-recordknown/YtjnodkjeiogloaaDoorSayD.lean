/- What the law on Frame shares: errors without a place, the document's Frame, two lists apart. -/
import Derived.Test.YtjnodkjeiogloaaDoorSayR
import Derived.Test.YtjnodkjeiogloaaDoorPlace
import Derived.Test.YtjnodkjeiogloaaDoorApart
namespace Go.Proofs.YtjnodkjeiogloaaDoor
set_option linter.ambiguousOpen false
open Go.RowKit
namespace Rc
open Sm Pk
set_option linter.unusedSimpArgs false
set_option linter.unusedVariables false

theorem plainR (n : Nat) (h : n ≤ 24) (w : World) (hg : Er.Handle w) : Calls Tryd.prog 9 #[errE n, nu n] w fun e w' => e = .returned (.bool true) ∧ Below w.heap.size w w' := by
  cases n with
  | zero => exact Er.plain_nil 0 w
  | succ n =>
    have := Er.plain_no (n + 1) ((n + 1 : Nat) : Int) (by omega) h w hg
    rw [decide_eq_true rfl] at this
    exact this

/-- The document's Frame. -/
theorem refframe (ep : Nat) (v : Value) (p : List UInt8) (w : World) (hep : ep < 4294967296) (hR : RdB w v p) (hz : Nz v) (hl : p.length ≤ 140737488351232) :
    Calls Tryd.prog 7 #[.int .u32 (ep : Int), v] w fun e w' => ∃ r, e = .returned (.tuple #[r, nu ((if 512 < p.length then 3 else 0 : Nat) : Int)]) ∧ w'.ownsRow w.heap.size 9 1 r (framed ep p).length ((framed ep p).map Nm.txt) ∧ Below w.heap.size w w' := by
  by_cases h : 512 < p.length
  · rw [framed, if_pos h, if_pos h]
    obtain ⟨a, cap, rfl, _⟩ := hR
    have hI : (512 : Int) < (p.length : Int) := by omega
    go_enter Tryd.func7, Tryd.ntmps7
    go_wp2
    go_ret2
    exact ⟨_, rfl, World.ownsRow_nil _ _ _ _, Below.refl _ _⟩
  · rw [framed, if_neg h, if_neg h]
    have c := Hid.mk' (refblocks ep v p w hep hR hz (by omega))
    obtain ⟨a, cap, rfl, _⟩ := hR
    have hI : ¬ (512 : Int) < (p.length : Int) := by omega
    clear hz
    go_enter Tryd.func7, Tryd.ntmps7
    go_wp2_with fail
    refine c.out.mono ?_
    rintro e w1 ⟨x, rfl, ho, hb⟩
    have HO := Hid.mk' ho
    have HB := Hid.mk' hb
    obtain ⟨a1, c1, rfl, _⟩ := Nm.own_shape ho
    clear ho hb
    go_wp2
    go_ret2
    exact ⟨_, rfl, HO.out, HB.out⟩

theorem two_ls {w : World} {base : Nat} {va vb : Value} {n : Nat} {xs : List Value} (ha : w.ownsRow base 9 1 va n xs) (hb : w.ownsRow base 9 1 vb n xs) (hle : base ≤ w.heap.size) :
    Nm.Ls (w.alloc (.cells #[va, vb] 25)) base w.heap.size [va, vb] (fun _ => n) (fun _ => xs) := by
  refine ⟨?_, ?_, by simp, by simp; omega⟩
  · intro l hl
    match l, hl with
    | 0, _ => exact ha.alloc _
    | 1, _ => exact hb.alloc _
  · intro l hl
    match l, hl with
    | 0, _ => simp
    | 1, _ => simp

theorem two_apart {w : World} {base : Nat} {va vb : Value} {n : Nat} {xs : List Value} (ha : w.ownsRow base 9 1 va n xs) (hb : w.ownsRow base 9 1 vb n xs) (hs : Nm.Sep va vb) : Nm.Apart w.heap.size [va, vb] := by
  refine ⟨?_, ?_⟩
  · intro l m hl hm hne
    match l, m, hl, hm with
    | 0, 0, _, _ => exact absurd rfl hne
    | 0, 1, _, _ => exact hs
    | 1, 0, _, _ => exact hs.symm
    | 1, 1, _, _ => exact absurd rfl hne
  · intro l hl
    match l, hl with
    | 0, _ => intro e; have := (ha.lt _ e).2; omega
    | 1, _ => intro e; have := (hb.lt _ e).2; omega

end Rc
end Go.Proofs.YtjnodkjeiogloaaDoor
