import Derived.Test.YthabnombfbehkaaSwpH
/- A tree and garbage over one arena: what the program must answer; its calls in a state that is told. -/
namespace Go.Proofs.Ythabnombfbehkaa
set_option linter.ambiguousOpen false
open Go.RowKit
namespace Sw
open An Rg Ft Lv
set_option linter.unusedSimpArgs false
set_option linter.unusedVariables false

/-- How an arena (at p), a tree (at q) and garbage (at r) lie: slots, free ones, writes; both last ones. -/
@[reducible] def R3Ty : Type := World → Nat → Nat → Nat → (Nat → Prop) → Arn → Int → Int → Prop

/-- As a tree's; as garbage's. -/
@[reducible] def R3Ty.rt (T : R3Ty) (r : Nat) (gl : Int) : RepTy := fun w p q F A tl => T w p q r F A tl gl

@[reducible] def R3Ty.rg (T : R3Ty) (q : Nat) (tl : Int) : RepTy := fun w p r F A gl => T w p q r F A tl gl

/-- What the program must answer. -/
structure OnceC (Rep : World → Nat → (Nat → Prop) → Arn → Prop) (R : RepTy) (T : R3Ty) : Prop extends HungC Rep R where
  keep3 : ∀ q r tl gl, KeepC ((T.rt r gl).ar q tl)
  get3 : ∀ q r tl gl, GetC ((T.rt r gl).ar q tl)
  frees3 : ∀ q r tl gl, FreesC ((T.rt r gl).ar q tl)
  newG : ∀ (w : World) (p q : Nat) (F : Nat → Prop) (A : Arn) (tl : Int), R w p q F A tl → An.Good A → Calls Try.prog 6 #[ptr p] w fun e w' => ∃ r G, e = .returned (ptr r) ∧ T w' p q r G A tl (-1) ∧ (∀ k, G k → F k ∨ w.heap.size ≤ k) ∧ Below w.heap.size w w'
  cut2 : ∀ (w : World) (p q : Nat) (F : Nat → Prop) (A : Arn) (tl i : Int), R w p q F A tl → An.Good A → A.wr ≤ 999999980 → I64 i → Calls Try.prog 8 #[ptr q, nu i] w fun e w' => e = .returned (errP (Tr.cutT A.sl tl i).no (Tr.cutT A.sl tl i).pl) ∧ ∃ n, n ≤ 8 ∧ LeftT R w w' p q F ⟨(Tr.cutT A.sl tl i).sl, A.fr, A.wr + n⟩ (Tr.cutT A.sl tl i).last
  cut : ∀ (w : World) (p q r : Nat) (F : Nat → Prop) (A : Arn) (tl gl i : Int), T w p q r F A tl gl → An.Good A → A.wr ≤ 999999980 → I64 i → Calls Try.prog 8 #[ptr q, nu i] w fun e w' => e = .returned (errP (Tr.cutT A.sl tl i).no (Tr.cutT A.sl tl i).pl) ∧ ∃ n, n ≤ 8 ∧ LeftT (T.rt r gl) w w' p q F ⟨(Tr.cutT A.sl tl i).sl, A.fr, A.wr + n⟩ (Tr.cutT A.sl tl i).last
  addG : ∀ (w : World) (p q r : Nat) (F : Nat → Prop) (A : Arn) (tl gl i : Int), T w p q r F A tl gl → An.Good A → okL gl → A.wr ≤ 999999980 → I64 i → Calls Try.prog 9 #[ptr r, nu i] w fun e w' => e = .returned (errP (addG A.sl gl i).no (addG A.sl gl i).pl) ∧ ∃ n, n ≤ 3 ∧ LeftT (T.rt r (addG A.sl gl i).last) w w' p q F ⟨(addG A.sl gl i).sl, A.fr, A.wr + n⟩ tl
  unit : ∀ (w : World) (p q r : Nat) (F : Nat → Prop) (A : Arn) (tl gl : Int), T w p q r F A tl gl → An.Good A → okL gl → A.wr ≤ 999999980 → Calls Try.prog 12 #[ptr r] w fun e w' => e = .returned (.tuple #[nun (unitG A.sl A.fr gl).f, .bool (unitG A.sl A.fr gl).ok]) ∧ ∃ n, n ≤ 8 ∧ LeftT (T.rt r (unitG A.sl A.fr gl).last) w w' p q F ⟨(unitG A.sl A.fr gl).sl, (unitG A.sl A.fr gl).fr, A.wr + n⟩ tl
  last : ∀ (w : World) (p q r : Nat) (F : Nat → Prop) (A : Arn) (tl gl : Int), T w p q r F A tl gl → Calls Try.prog 15 #[ptr r] w fun e w' => e = .returned (nu gl) ∧ Below w.heap.size w w'
  all : ∀ q tl, AllG (T.rg q tl)

section
variable {Rep : World → Nat → (Nat → Prop) → Arn → Prop} {R : RepTy} {T : R3Ty} {w0 w w' : World} {p q r : Nat} {A : Arn} {tl gl : Int} {B : Nat → Prop}

theorem Hs.newG (C : OnceC Rep R T) (h : Hs R w0 w p q A tl B) :
    Calls Try.prog 6 #[ptr p] w fun e w' => ∃ r, e = .returned (ptr r) ∧ Hid (Hs (T.rt r (-1)) w0 w' p q A tl B ∧ Below w.heap.size w w') := by
  obtain ⟨F, h1, h2, h3, h4, h5⟩ := h
  refine (C.newG w p q F A tl h1 h2).mono ?_
  rintro e w' ⟨r, G, rfl, g1, g2, g3⟩
  refine ⟨r, rfl, ⟨G, g1, h2, fun k hk => (g2 k hk).elim (h3 k) (fun e => Nat.le_trans h5.size e), fun b hb => ⟨fun e => ?_, Nat.lt_of_lt_of_le (h4 b hb).2 g3.size⟩, h5.trans (g3.mono h5.size)⟩, g3⟩
  rcases g2 b e with e | e
  · exact (h4 b hb).1 e
  · have := (h4 b hb).2
    omega

theorem Hs.below3 (C : OnceC Rep R T) (h : Hs (T.rt r gl) w0 w p q A tl B) (hb : Below w.heap.size w w') : Hs (T.rt r gl) w0 w' p q A tl B := h.more (fun q l => C.keep3 q r l gl) hb (fun _ hb => .inl hb)

theorem Hs.cut (C : OnceC Rep R T) (h : Hs (T.rt r gl) w0 w p q A tl B) (hw : A.wr ≤ 100000) (i : Int) (hi : I64 i) {S' : List Slt} {tl' : Int} (hS : S'.length = 32) (he : Tr.cutT A.sl tl i = ⟨0, -1, S', tl'⟩) :
    Calls Try.prog 8 #[ptr q, nu i] w fun e w' => e = .returned .nilIface ∧ Hid (∃ n, n ≤ 8 ∧ Hs (T.rt r gl) w0 w' p q ⟨S', A.fr, A.wr + n⟩ tl' B ∧ Same B w w') := by
  obtain ⟨F, h1, h2, h3, h4, h5⟩ := h
  have := C.cut w p q r F A tl gl i h1 h2 (by omega) hi
  rw [he] at this
  refine this.mono ?_
  rintro e w' ⟨rfl, n, hn, hl⟩
  exact ⟨rfl, n, hn, left_hs h3 h4 h5 hl ⟨hS, h2.nd, h2.lt⟩⟩

theorem Hs.cut2 (C : OnceC Rep R T) (h : Hs R w0 w p q A tl B) (hw : A.wr ≤ 100000) (i : Int) (hi : I64 i) {S' : List Slt} {tl' : Int} (hS : S'.length = 32) (he : Tr.cutT A.sl tl i = ⟨0, -1, S', tl'⟩) :
    Calls Try.prog 8 #[ptr q, nu i] w fun e w' => e = .returned .nilIface ∧ Hid (∃ n, n ≤ 8 ∧ Hs R w0 w' p q ⟨S', A.fr, A.wr + n⟩ tl' B ∧ Same B w w') := by
  obtain ⟨F, h1, h2, h3, h4, h5⟩ := h
  have := C.cut2 w p q F A tl i h1 h2 (by omega) hi
  rw [he] at this
  refine this.mono ?_
  rintro e w' ⟨rfl, n, hn, hl⟩
  exact ⟨rfl, n, hn, left_hs h3 h4 h5 hl ⟨hS, h2.nd, h2.lt⟩⟩

theorem Hs.addG (C : OnceC Rep R T) (h : Hs (T.rt r gl) w0 w p q A tl B) (hw : A.wr ≤ 100000) (hok : okL gl) (i : Int) (hi : I64 i) {S' : List Slt} {gl' : Int} (hS : S'.length = 32) (he : addG A.sl gl i = ⟨0, -1, S', gl'⟩) :
    Calls Try.prog 9 #[ptr r, nu i] w fun e w' => e = .returned .nilIface ∧ Hid (∃ n, n ≤ 3 ∧ Hs (T.rt r gl') w0 w' p q ⟨S', A.fr, A.wr + n⟩ tl B ∧ Same B w w') := by
  obtain ⟨F, h1, h2, h3, h4, h5⟩ := h
  have := C.addG w p q r F A tl gl i h1 h2 hok (by omega) hi
  rw [he] at this
  refine this.mono ?_
  rintro e w' ⟨rfl, n, hn, hl⟩
  exact ⟨rfl, n, hn, left_hs h3 h4 h5 hl ⟨hS, h2.nd, h2.lt⟩⟩

theorem Hs.unit (C : OnceC Rep R T) (h : Hs (T.rt r gl) w0 w p q A tl B) (hw : A.wr ≤ 100000) (hok : okL gl) {U : UAns} (he : unitG A.sl A.fr gl = U) :
    Calls Try.prog 12 #[ptr r] w fun e w' => e = .returned (.tuple #[nun U.f, .bool U.ok]) ∧ Hid (∃ n, n ≤ 8 ∧ Hs (T.rt r U.last) w0 w' p q ⟨U.sl, U.fr, A.wr + n⟩ tl B ∧ Same B w w') := by
  obtain ⟨F, h1, h2, h3, h4, h5⟩ := h
  have := C.unit w p q r F A tl gl h1 h2 hok (by omega)
  have hg := fun n => unit_good h2 gl n
  rw [he] at this hg
  refine this.mono ?_
  rintro e w' ⟨rfl, n, hn, hl⟩
  exact ⟨rfl, n, hn, left_hs h3 h4 h5 hl (hg _)⟩

theorem Hs.last3 (C : OnceC Rep R T) (h : Hs (T.rt r gl) w0 w p q A tl B) :
    Calls Try.prog 15 #[ptr r] w fun e w' => e = .returned (nu gl) ∧ Hid (Hs (T.rt r gl) w0 w' p q A tl B ∧ Below w.heap.size w w') := by
  obtain ⟨F, h1, h2, h3, h4, h5⟩ := id h
  refine (C.last w p q r F A tl gl h1).mono ?_
  rintro e w' ⟨rfl, hb⟩
  exact ⟨rfl, h.below3 C hb, hb⟩

theorem Hs.all3 (C : OnceC Rep R T) (h : Hs (T.rt r gl) w0 w p q A tl B) (hok : okL gl) {W : List Nat} (he : allG A.sl gl = W) :
    Calls Try.prog 11 #[ptr r] w fun e w' => ∃ a c, e = .returned (.slice a W.length c) ∧ Hid (Hs (T.rt r gl) w0 w' p q A tl B ∧ w'.ownsRow w.heap.size 3 1 (.slice a W.length c) W.length (W.map nun) ∧ Below w.heap.size w w') := by
  obtain ⟨F, h1, h2, h3, h4, h5⟩ := id h
  have := all_any (R := T.rg q tl) (fun r gl => C.keep3 q r tl gl) (C.all q tl) w p r F A gl h1 h2 hok
  rw [he] at this
  refine this.mono ?_
  rintro e w' ⟨v, rfl, ho, hb⟩
  obtain ⟨a, c, rfl, _⟩ := Nm.own_shape ho
  exact ⟨a, c, rfl, h.below3 C hb, ho, hb⟩

theorem Hs.get3 (C : OnceC Rep R T) (h : Hs (T.rt r gl) w0 w p q A tl B) (k : Nat) (hk : k < 32) :
    Calls Try.prog 14 #[ptr p, nun k] w fun e w' => e = .returned (.tuple #[(slG A.sl k).v, .nilIface]) ∧ Hid (Hs (T.rt r gl) w0 w' p q A tl B ∧ Below w.heap.size w w') := by
  obtain ⟨F, h1, h2, h3, h4, h5⟩ := id h
  have := C.get3 q r tl gl w p F A k h1 h2 (by omega)
  rw [(at_in A k hk).1, (at_in A k hk).2] at this
  refine this.mono ?_
  rintro e w' ⟨rfl, hb⟩
  exact ⟨rfl, h.below3 C hb, hb⟩

/-- The free ones, told by an iterator. -/
theorem Hs.frees3 (C : OnceC Rep R T) (h : Hs (T.rt r gl) w0 w p q A tl B) :
    Calls Try.prog 13 #[ptr p] w fun e w' => ∃ gf lb, e = .returned (.func (.func gf) #[] lb) ∧ Hid (Hs (T.rt r gl) w0 w' p q A tl B ∧ Below w.heap.size w w' ∧ ∃ X, IterA w' (.func (.func gf) #[] lb) X A.fr ∧ ∀ b, X b → w.heap.size ≤ b) := by
  obtain ⟨F, h1, h2, h3, h4, h5⟩ := id h
  refine (C.frees3 q r tl gl w p F A h1 h2).mono ?_
  rintro e w' ⟨fv, X, rfl, hit, hX, hb⟩
  obtain ⟨gf, lb, k, rfl, rest⟩ := hit
  exact ⟨gf, lb, rfl, h.below3 C hb, hb, X, ⟨gf, lb, k, rfl, rest⟩, hX⟩
end
end Sw
end Go.Proofs.Ythabnombfbehkaa
