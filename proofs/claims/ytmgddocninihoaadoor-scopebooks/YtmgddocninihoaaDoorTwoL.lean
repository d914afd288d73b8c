/- Two lists that were handed out, as the list of lists that is asked. -/
import Derived.Test.YtmgddocninihoaaDoorApart
namespace Go.Proofs.YtmgddocninihoaaDoor
open Go.RowKit
namespace Nm

theorem two_ls {w : World} {base : Nat} {va vb : Value} {n : Nat} {xs : List Value} (ha : w.ownsRow base 9 1 va n xs) (hb : w.ownsRow base 9 1 vb n xs) (hle : base ≤ w.heap.size) :
    Ls (w.alloc (.cells #[va, vb] 22)) base w.heap.size [va, vb] (fun _ => n) (fun _ => xs) := by
  refine ⟨?_, ?_, by simp, by simp; omega⟩
  · intro l hl
    match l, hl with
    | 0, _ => exact ha.alloc _
    | 1, _ => exact hb.alloc _
  · intro l hl
    match l, hl with
    | 0, _ => simp
    | 1, _ => simp

theorem two_apart {w : World} {base : Nat} {va vb : Value} {n : Nat} {xs : List Value} (ha : w.ownsRow base 9 1 va n xs) (hb : w.ownsRow base 9 1 vb n xs) (hs : Sep va vb) : Apart w.heap.size [va, vb] := by
  refine ⟨?_, ?_⟩
  · intro l m hl hm hne
    match l, m, hl, hm with
    | 0, 0, _, _ => exact absurd rfl hne
    | 0, 1, _, _ => exact hs
    | 1, 0, _, _ => exact hs.symm
    | 1, 1, _, _ => exact absurd rfl hne
  · intro l hl
    match l, hl with
    | 0, _ => intro e; have := (ha.lt _ e).2; omega
    | 1, _ => intro e; have := (hb.lt _ e).2; omega

theorem sep_later {w w' : World} {B : Nat} {va vb : Value} {n m : Nat} {e e' : TypeId} {xs ys : List Value} {b0 : Nat} (ha : w.ownsRow b0 e 1 va n xs) (hb : w'.ownsRow B e' 1 vb m ys) (h : w.heap.size ≤ B) : Sep va vb := by
  intro b h1 h2
  have := (ha.lt b h1).2
  have := (hb.lt b h2).1
  omega

end Nm
end Go.Proofs.YtmgddocninihoaaDoor
