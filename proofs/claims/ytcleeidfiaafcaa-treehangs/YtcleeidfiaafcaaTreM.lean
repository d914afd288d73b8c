import Derived.Test.YtcleeidfiaafcaaTreZ
/- A tree, and the row of the parents as they were chosen: what calls leave of both. -/
namespace Go.Proofs.Ytcleeidfiaafcaa
set_option linter.ambiguousOpen false
open Go.RowKit
namespace Tr
open An Rg Ft Lv
set_option linter.unusedSimpArgs false
set_option linter.unusedVariables false

/-- The row uv holds ur; the tree was hung as up says. -/
structure TU (R : RepTy) (w1 w : World) (p q n : Nat) (ur up : List Int) (cut : Int) (m : Nat) (uv : Value) : Prop where
  row : w.ownsRow w1.heap.size 3 1 uv ur.length (ur.map nu)
  ups : Ups up
  th : TH R w1 w p q n up cut m (fun b => uv.ownBlock = some b)

section
variable {Rep : World → Nat → (Nat → Prop) → Arn → Prop} {R : RepTy} {w1 w w' : World} {p q n m : Nat} {ur up : List Int} {cut : Int} {uv : Value}

theorem TU.bel (h : TU R w1 w p q n ur up cut m uv) : Below w1.heap.size w1 w := h.th.bel

theorem TU.below (C : TreeC Rep R) (h : TU R w1 w p q n ur up cut m uv) (hb : Below w.heap.size w w') : TU R w1 w' p q n ur up cut m uv :=
  ⟨own_bel h.row hb, h.ups, h.th.below C hb⟩

theorem own_kq {w w' : World} {base : Nat} {e : TypeId} {size : Nat} {v : Value} {n : Nat} {xs : List Value} (h : w.ownsRow base e size v n xs) (hk : Kq (fun b => v.ownBlock = some b) w w') : w'.ownsRow base e size v n xs :=
  hk.own h (fun g hg hn => hn hg)

theorem tu_start (C : TreeC Rep R) (h : TH R w1 w p q n [] (-1) m (fun _ => False)) : TU R w1 w p q n [] [] (-1) m (.slice none 0 0) :=
  ⟨World.ownsRow_nil _ _ _ _, fun k hk => by simp at hk, h.more C (Below.refl _ _) (fun k hk => by cases hk)⟩

theorem tu_add (C : TreeC Rep R) (h : TU R w1 w p q n up up (-1) m uv) (hm : m ≤ 1000) (hi : up.length < n) (hn : n ≤ 32) {x : Int} (hx : -1 ≤ x ∧ x < up.length) :
    Calls Try.prog 7 #[ptr q, nun up.length, lkU (linkS x) (linkB x)] w fun e w' => e = .returned .nilIface ∧ TU R w1 w' p q n up (up ++ [x]) (-1) (m + 8) uv :=
  (add_th C h.th hm h.ups hi hn hx).mono (fun e w' ⟨h1, h2, h3⟩ => ⟨h1, own_kq h.row h3, h.ups.snoc hx, h2⟩)

theorem tu_cut (C : TreeC Rep R) (h : TU R w1 w p q n up up (-1) m uv) (hm : m ≤ 1000) (hi : up.length = n) {c : Nat} (hc : c < n) :
    Calls Try.prog 10 #[ptr q, nun c] w fun e w' => e = .returned .nilIface ∧ TU R w1 w' p q n up up c (m + 8) uv :=
  (cut_th C h.th hm h.ups hi hc).mono (fun e w' ⟨h1, h2, h3⟩ => ⟨h1, own_kq h.row h3, h.ups, h2⟩)

/-- The row grows by one. -/
theorem tu_push (C : TreeC Rep R) {x : Int} {a : Option Addr} {k c : Nat} {v' : Value} (h : TU R w1 w p q n ur up cut m (.slice a k c)) (hg : Nm.Grew w w' w1.heap.size 3 1 (.slice a k c) v' ur.length (ur.map nu) 1 [nu x]) : TU R w1 w' p q n (ur ++ [x]) up cut m v' := by
  obtain ⟨g1, g2, _, g4⟩ := hg
  refine ⟨?_, h.ups, ?_⟩
  · rw [List.map_append, List.length_append]
    exact g1
  · obtain ⟨A, l, t1, ⟨F, s1, s2, s3, s4, s5⟩, t3⟩ := h.th
    refine ⟨A, l, t1, ⟨F, (C.keep q l).keep s1 ((Keep.refl (fun j => (Value.slice a k c).ownBlock = some j) w).grown g2 (fun k e => .inl e)) (fun j hF e => (s5 j e).1 hF), s2, s3, s4.grown g2 s4.size (fun r e => (h.row.lt r e).1), fun j hj => ?_⟩, t3⟩
    refine ⟨fun hF => ?_, (g1.lt j hj).2⟩
    rcases g4 with e | ⟨b, e, hb⟩
    · exact (s5 j (e.symm.trans hj)).1 hF
    · have e2 := Option.some.inj (hj.symm.trans e)
      have := (C.keep q l).lt s1 j hF
      omega

theorem TU.rd (h : TU R w1 w p q n ur up cut m uv) : RdJ w uv ur := rdJ_own h.row

/-- What the law reckons, and what the program says. -/
theorem tu_kids (h : TU R w1 w p q n up up cut m uv) (hup : up.length ≤ 32) (i : Int) :
    Calls Try.prog 12 #[uv, nu i, nu cut] w fun e w' => ∃ v', e = .returned v' ∧ w'.ownsRow w.heap.size 3 1 v' (kidsU up i cut).length ((kidsU up i cut).map nun) ∧ Below w.heap.size w w' :=
  kids_any uv up i cut w h.rd hup

theorem tu_under (h : TU R w1 w p q n up up cut m uv) (hup : up.length ≤ 32) {i : Nat} (hi : i < up.length) :
    Calls Try.prog 13 #[uv, nun i, nu cut] w fun e w' => ∃ v', e = .returned v' ∧ w'.ownsRow w.heap.size 3 1 v' (preU up cut 33 i).length ((preU up cut 33 i).map nun) ∧ Below w.heap.size w w' :=
  under_any uv up cut h.ups hup 32 i w h.rd hi (by omega)

/-- One that was cut is hung again. -/
theorem tu_again {c : Nat} (C : TreeC Rep R) (h : TU R w1 w p q n up up c m uv) (hm : m ≤ 1000) (hi : up.length = n) (hc : c < n) :
    Calls Try.prog 7 #[ptr q, nun c, lkU (linkS (up.getD c 0)) (linkB (up.getD c 0))] w fun e w' => e = .returned .nilIface ∧ Again R w1 w' p q up c (fun b => uv.ownBlock = some b) ∧ w'.ownsRow w1.heap.size 3 1 uv up.length (up.map nu) :=
  (again_th C h.th hm h.ups hi hc).mono (fun e w' ⟨h1, h2, h3⟩ => ⟨h1, h2, own_kq h.row h3⟩)
end
end Tr
end Go.Proofs.Ytcleeidfiaafcaa
