/- ExpiryKnown: the chapter's examples. -/
import Derived.Test.YthjdpfmnbmnbhaaExpN
import Derived.Test.YthjdpfmnbmnbhaaRoundIn
import Derived.Test.YthjdpfmnbmnbhaaNum
import Derived.Deep.RegionHeld3
import Derived.Deep.CutBlock
import Derived.Deep.AppendLies
import Derived.Laws.StructEq
import Derived.Laws.AppendOwnNone
import Derived.Maps.AppendAt
import Derived.Maps.OwnIn
namespace Go.Proofs.Ythjdpfmnbmnbhaa
set_option linter.ambiguousOpen false
open Go.RowKit
namespace Ex
open Hh Ft
set_option linter.unusedSimpArgs false
set_option linter.unusedVariables false
attribute [local go_sem] Oper.semAt_some

/-- An expiry amid the examples; a block of the loop's, where there is one, lies apart. -/
def Kx (R : RepXT) (w0 : World) (dk : Option Nat) (w : World) (p : Nat) (L : List En) : Prop := ∃ F, Xe R w0 w p F L ∧ ∀ d, dk = some d → w.heap[d]? = some (.deferred (some [])) ∧ ¬ F d

section
variable {R : RepXT} {w0 w w' : World} {dk : Option Nat} {p : Nat} {L L' : List En}

theorem Kx.below (C : ExpiryC R) (h : Kx R w0 dk w p L) (hb : Below w.heap.size w w') : Kx R w0 dk w' p L := by
  obtain ⟨F, h, hd⟩ := h
  exact ⟨F, h.below C hb, fun d e => ⟨(hb.block d (Array.getElem?_eq_some_iff.1 (hd d e).1).1).trans (hd d e).1, (hd d e).2⟩⟩

theorem Kx.bel (h : Kx R w0 dk w p L) : Below w0.heap.size w0 w := by
  obtain ⟨F, h, _⟩ := h
  exact h.bel

theorem Kx.left {F : Nat → Prop} (h : Xe R w0 w p F L) (hd : ∀ d, dk = some d → w.heap[d]? = some (.deferred (some [])) ∧ ¬ F d) (hl : LeftX R w w' p F L') : Kx R w0 dk w' p L' := by
  obtain ⟨G, g, k, n⟩ := h.left hl
  refine ⟨G, g, fun d e => ⟨k.at (hd d e).1 (hd d e).2, fun hg => ?_⟩⟩
  rcases n d hg with h1 | h1
  · exact (hd d e).2 h1
  · have := (Array.getElem?_eq_some_iff.1 (hd d e).1).1
    omega

theorem Kx.set (C : ExpiryC R) (h : Kx R w0 dk w p L) (s b t : Int) (hx : okE ⟨s, b, t⟩) (e : setE L ⟨s, b, t⟩ = L') : Calls Try.prog 8 #[ptr p, .agg #[nu s, nu b], nu t] w fun e w' => e = .returned .nilIface ∧ Hid (Kx R w0 dk w' p L') := by
  obtain ⟨F, h, hd⟩ := h
  subst e
  refine (C.setYes w p F L s b t h.rep hx).mono ?_
  rintro e w' ⟨rfl, hl⟩
  exact ⟨rfl, Kx.left h hd hl⟩

theorem Kx.no (C : ExpiryC R) (h : Kx R w0 dk w p L) (s b t : Int) (hx : ¬ okE ⟨s, b, t⟩) : Calls Try.prog 8 #[ptr p, .agg #[nu s, nu b], nu t] w fun e w' => e = .returned (.iface 51 (.int .i64 1)) ∧ Hid (Kx R w0 dk w' p L) := by
  obtain ⟨F, h1, hd⟩ := id h
  refine (C.setNo w p F L s b t h1.rep hx).mono ?_
  rintro e w' ⟨rfl, hb⟩
  exact ⟨rfl, h.below C hb⟩

theorem Kx.forget (C : ExpiryC R) (h : Kx R w0 dk w p L) (s : Int) (hs : I64e s) (bb : Bool) (hb : hasE L s = bb) (e : dropE L s = L') : Calls Try.prog 11 #[ptr p, nu s] w fun e w' => e = .returned (.bool bb) ∧ Hid (Kx R w0 dk w' p L') := by
  obtain ⟨F, h, hd⟩ := h
  subst e hb
  refine (C.forget w p F L s h.rep hs).mono ?_
  rintro e w' ⟨rfl, hl⟩
  exact ⟨rfl, Kx.left h hd hl⟩

theorem Kx.next (C : ExpiryC R) (h : Kx R w0 dk w p L) (n : Int) (b : Bool) (e : nextE L = n ∧ snextE L = b) : Calls Try.prog 10 #[ptr p] w fun e w' => e = .returned (.tuple #[nu n, .bool b]) ∧ Hid (Kx R w0 dk w' p L) := by
  obtain ⟨F, h1, hd⟩ := id h
  have := C.next w p F L h1.rep
  rw [e.1, e.2] at this
  refine this.mono ?_
  rintro e w' ⟨rfl, hb⟩
  exact ⟨rfl, h.below C hb⟩

theorem Kx.num (C : ExpiryC R) (h : Kx R w0 dk w p L) : Calls Try.prog 13 #[.iface 51 (.int .i64 1)] w fun e w' => e = .returned (nu 1) ∧ Hid (Kx R w0 dk w' p L) := by
  refine (Er.num_no 1 (by decide) (by decide) w).mono ?_
  rintro e w' ⟨rfl, hb⟩
  exact ⟨rfl, h.below C hb⟩
end

theorem cell_ltE {w : World} {a : Addr} {v : Value} (h : w.cell? a = some v) : a.block < w.heap.size := World.block_lt_of_cell? w a h

/-! ### Links, one list and another -/

def RdL (w : World) (v : Value) (L : List (Int × Int)) : Prop :=
  ∃ a cap, v = .slice a L.length cap ∧ L.length ≤ cap ∧ cap ≤ maxLen ∧ (0 < L.length → ∃ g, a = some ⟨g, 0, none⟩ ∧ ∀ k x, L[k]? = some x → w.cell? ⟨g, k * 2, none⟩ = some (nu x.1) ∧ w.cell? ⟨g, k * 2 + 1, none⟩ = some (nu x.2))

@[reducible] def lkc (x : Int × Int) : List Value := [nu x.1, nu x.2]

theorem lkc_len (L : List (Int × Int)) : (L.flatMap lkc).length = L.length * 2 := by
  induction L with
  | nil => rfl
  | cons x L ih =>
    rw [List.flatMap_cons, List.length_append, ih]
    simp
    omega

theorem lkc_at : ∀ (L : List (Int × Int)) (k : Nat) (x : Int × Int), L[k]? = some x → (L.flatMap lkc)[k * 2]? = some (nu x.1) ∧ (L.flatMap lkc)[k * 2 + 1]? = some (nu x.2)
  | [], k, x, h => by simp at h
  | y :: L, 0, x, h => by
    simp at h
    subst h
    exact ⟨rfl, rfl⟩
  | y :: L, k + 1, x, h => by
    have ih := lkc_at L k x (by simpa using h)
    rw [List.flatMap_cons, show (k + 1) * 2 = k * 2 + 2 by omega]
    exact ⟨by rw [List.getElem?_append_right (by simp)]; simpa using ih.1, by rw [List.getElem?_append_right (by simp)]; simpa using ih.2⟩

theorem own_rdL {w : World} {base n : Nat} {v : Value} {L : List (Int × Int)} (h : w.ownsRow base 32 2 v n (L.flatMap lkc)) (hn : n = L.length) : RdL w v L := by
  subst hn
  rcases h.2 with ⟨rfl, h0⟩ | ⟨g, cap, cur, rfl, _, _, hc, hm, _⟩
  · exact ⟨none, 0, by rw [h0], by omega, by unfold maxLen; omega, fun h => by omega⟩
  · refine ⟨_, cap, rfl, hc, hm, fun _ => ⟨g, rfl, fun k x hk => ?_⟩⟩
    obtain ⟨e1, e2⟩ := lkc_at L k x hk
    have h1 := h.cells (g := g) rfl (k * 2) _ e1
    have h2 := h.cells (g := g) rfl (k * 2 + 1) _ e2
    rw [Addr.add_mid, Nat.zero_add] at h1 h2
    exact ⟨h1, h2⟩

theorem RdL.below {w w' : World} {v : Value} {L : List (Int × Int)} (h : RdL w v L) (hb : Below w.heap.size w w') : RdL w' v L := by
  obtain ⟨a, cap, e, h1, h2, h3⟩ := h
  refine ⟨a, cap, e, h1, h2, fun h0 => ?_⟩
  obtain ⟨g, rfl, h4⟩ := h3 h0
  exact ⟨g, rfl, fun k x hk => ⟨(hb.cell (p := ⟨g, k * 2, none⟩) (cell_ltE (h4 k x hk).1)).trans (h4 k x hk).1, (hb.cell (p := ⟨g, k * 2 + 1, none⟩) (cell_ltE (h4 k x hk).2)).trans (h4 k x hk).2⟩⟩

set_option maxRecDepth 100000 in
theorem neq_lnk (a b : Int) (w : World) : (binOp .neq 32 (.agg #[nu a, nu b]) (.agg #[nu a, nu b])).run Try.prog w = .ok (.bool false) w := by
  go_simp

set_option maxRecDepth 1000000 in
set_option maxHeartbeats 4000000 in
theorem sameL (v1 v2 : Value) (L : List (Int × Int)) (w : World) (h1 : RdL w v1 L) (h2 : RdL w v2 L) : Calls Try.prog 12 #[v1, v2] w fun e w' => e = .returned (.bool true) ∧ Below w.heap.size w w' := by
  obtain ⟨a1, c1, rfl, hc1, hm1, hr1⟩ := h1
  obtain ⟨a2, c2, rfl, hc2, hm2, hr2⟩ := h2
  obtain ⟨n, hn⟩ : ∃ n, L.length = n := ⟨_, rfl⟩
  have HN := Hid.mk' hn
  have HR1 := Hid.mk' hr1
  have HR2 := Hid.mk' hr2
  rw [hn] at hc1 hc2 ⊢
  unfold maxLen at hm1 hm2
  have hI1 : (c1 : Int) ≤ 9223372036854775807 := by omega
  have hI2 : (c2 : Int) ≤ 9223372036854775807 := by omega
  clear hn hr1 hr2
  go_enter Try.func12, Try.ntmps12
  go_wp2_with fail
  go_loopw [5] (fun iv wr => ∃ k : Nat, k ≤ n ∧ iv = nun k ∧ Hid (Below w.heap.size w wr)) (fun iv _ => n - (intOf iv).toNat)
  case atStart => exact ⟨0, Nat.zero_le _, rfl, Below.refl _ _⟩
  case round =>
    obtain ⟨k, hk, rfl, HB⟩ := hrel
    by_cases hlt : k < n
    · have hkI : (k : Int) < (n : Int) := by omega
      have hk0 : (0 : Int) ≤ (k : Int) := by omega
      obtain ⟨x, hx⟩ : ∃ x, L[k]? = some x := ⟨_, List.getElem?_eq_getElem (by rw [HN.out]; exact hlt)⟩
      obtain ⟨g1, rfl, q1⟩ := HR1.out (by rw [HN.out]; omega)
      obtain ⟨g2, rfl, q2⟩ := HR2.out (by rw [HN.out]; omega)
      obtain ⟨e1, e2⟩ := q1 k x hx
      obtain ⟨e3, e4⟩ := q2 k x hx
      have HBB := HB.out
      have hS : wr.drew.cell? ⟨g1, k * 2, none⟩ = some (nu x.1) ∧ wr.drew.cell? ⟨g1, k * 2 + 1, none⟩ = some (nu x.2) ∧ wr.drew.cell? ⟨g2, k * 2, none⟩ = some (nu x.1) ∧ wr.drew.cell? ⟨g2, k * 2 + 1, none⟩ = some (nu x.2) :=
        ⟨(HBB.cell (p := ⟨g1, k * 2, none⟩) (cell_ltE e1)).trans e1, (HBB.cell (p := ⟨g1, k * 2 + 1, none⟩) (cell_ltE e2)).trans e2, (HBB.cell (p := ⟨g2, k * 2, none⟩) (cell_ltE e3)).trans e3, (HBB.cell (p := ⟨g2, k * 2 + 1, none⟩) (cell_ltE e4)).trans e4⟩
      obtain ⟨x1, x2⟩ := x
      dsimp only at hS
      have hnq := neq_lnk x1 x2
      have HBD : Hid (Below w.heap.size w wr.drew) := HBB.drew
      clear e1 e2 e3 e4 q1 q2 hx HBB HB
      go_wp2_with fail
      go_region_held3 (fun w' => w'.cell? ⟨g1, k * 2, none⟩ = some (nu x1) ∧ w'.cell? ⟨g1, k * 2 + 1, none⟩ = some (nu x2) ∧ w'.cell? ⟨g2, k * 2, none⟩ = some (nu x1) ∧ w'.cell? ⟨g2, k * 2 + 1, none⟩ = some (nu x2)) (first | assumption | exact hS | fail) (fail)
      go_wp2
      go_roundw
      case rel => exact ⟨k + 1, by omega, by go_num, HBD⟩
      case measure => simp [intOf] <;> omega
    · have hkI : ¬ (k : Int) < (n : Int) := by omega
      go_wp2
      go_ret
      exact ⟨rfl, HB.out⟩

theorem infoLk : (Try.prog.info? 32).map (fun i => (i.zero, i.size, i.bytes)) = some (some (.agg #[.int .i64 0, .int .i64 0]), 2, 16) := by kernel_rfl

theorem set_keepQ (w : World) (b j : Nat) (v : Value) : Keep (fun k => k = b) w (w.setCell ⟨b, j, none⟩ v) := (Keep.refl (fun k => k = b) w).setCell (p := ⟨b, j, none⟩) (.inl rfl) _

def S4 : List En := [⟨7, 2, 4⟩, ⟨3, 6, 8⟩, ⟨2, 5, 9⟩]

theorem split4 {pre c : List En} (h : S4 = pre ++ c) (hp : ∀ y ∈ pre, y.t ≤ 8) (hc : ∀ x M, c = x :: M → 8 < x.t) : pre = [⟨7, 2, 4⟩, ⟨3, 6, 8⟩] ∧ c = [⟨2, 5, 9⟩] := by
  unfold S4 at h
  match pre, h with
  | [], h =>
    have := hc _ _ h.symm
    simp at this
  | [a], h =>
    simp at h
    have := hc _ _ h.2.symm
    simp at this
  | [a, b], h =>
    simp at h
    exact ⟨by rw [← h.1, ← h.2.1], h.2.2.symm⟩
  | a :: b :: d :: r, h =>
    simp at h
    have := hp d (by simp)
    rw [← h.2.2.1] at this
    simp at this

theorem rdL_new {w : World} {g : Nat} {a b c d : Int} {t : TypeId} (h : w.heap[g]? = some (.cells #[nu a, nu b, nu c, nu d] t)) : RdL w (.slice (some ⟨g, 0, none⟩) 2 2) [(a, b), (c, d)] := by
  refine ⟨_, 2, rfl, by simp, by decide, fun _ => ⟨g, rfl, fun k x hk => ?_⟩⟩
  match k, hk with
  | 0, hk =>
    simp at hk
    subst hk
    exact ⟨by rw [cell_of_row w g _ _ _ _ h]; rfl, by rw [cell_of_row w g _ _ _ _ h]; rfl⟩
  | 1, hk =>
    simp at hk
    subst hk
    exact ⟨by rw [cell_of_row w g _ _ _ _ h]; rfl, by rw [cell_of_row w g _ _ _ _ h]; rfl⟩
  | k + 2, hk => simp at hk

/-- Amid the loop: what has been collected. -/
def Sk (R : RepXT) (w wi : World) (p : Nat) (X : Nat → Prop) (hi q : Nat) (F : Nat → Prop) (pre L : List En) (W : World) : Prop :=
  Lp R w wi p X hi F L W ∧ ∃ v, W.heap[q]? = some (.cells #[v] 41) ∧ W.ownsRow hi 32 2 v pre.length ((pre.map (fun y => (y.s, y.b))).flatMap lkc) ∧ (∀ g, v.ownBlock = some g → ¬ F g) ∧ ¬ F q ∧ ¬ X q ∧ q < wi.heap.size ∧ w.heap.size ≤ q

section
variable {R : RepXT} {w wi W W' : World} {p hi q : Nat} {X F E : Nat → Prop} {pre L : List En}

theorem Sk.keep (C : ExpiryC R) (h : Sk R w wi p X hi q F pre L W) (hk : Keep E W W') (h1 : ∀ k, E k → ¬ F k ∧ wi.heap.size ≤ k ∧ k < hi) : Sk R w wi p X hi q F pre L W' := by
  obtain ⟨h2, v, h3, h4, h5, h6, h7, h8, h9⟩ := h
  exact ⟨h2.keep C hk (fun k he => ⟨(h1 k he).1, fun hx => by have := (h2.x k hx).1; have := (h1 k he).2; omega, by have := (h1 k he).2; have := h2.sz0; omega⟩), v, hk.at h3 (fun e => by have := (h1 q e).2; omega), hk.own h4 (fun g e he => by have := (h4.lt g e).1; have := (h1 g he).2; omega), h5, h6, h7, h8, h9⟩

theorem Sk.rest (C : ExpiryC R) : Rf.Rest wi.heap.size hi (Sk R w wi p X hi q F pre L) := fun A B hk h =>
  h.keep C hk (fun k hg => ⟨fun hf => (h.1.off k hf).2 hg, hg⟩)

theorem Sk.below (C : ExpiryC R) (h : Sk R w wi p X hi q F pre L W) (hb : Below W.heap.size W W') : Sk R w wi p X hi q F pre L W' := h.keep C (Keep.of_below (F := fun _ => False) hb) (fun _ e => e.elim)

theorem Sk.step (C : ExpiryC R) {now : Int} (h : Sk R w wi p X hi q F pre L W) {x : En} {c' : Kn} (hs : hi ≤ W.heap.size) (hst : StepX R p now (F, L) W (some x) c' W') :
    L = x :: c'.2 ∧ x.t ≤ now ∧ Sk R w wi p X hi q c'.1 pre c'.2 W' ∧ Rf.Lets X wi.heap.size hi W W' := by
  obtain ⟨h2, v, h3, h4, h5, h6, h7, h8, h9⟩ := h
  obtain ⟨e1, e2, e3, e4, e5, e6⟩ := h2.step C hs hst
  have hl := h2.sz
  refine ⟨e1, e2, ⟨e3, v, e4.at h3 h6, e4.own h4 h5, fun g hg hc => ?_, fun hc => ?_, h7, h8, h9⟩, e6⟩
  · rcases e5 g hc with e | e
    · exact h5 g hg e
    · have := (h4.lt g hg).2; omega
  · rcases e5 q hc with e | e
    · exact h6 e
    · omega
end

set_option maxRecDepth 1000000 in
set_option maxHeartbeats 16000000 in
theorem expiryKnown_yes {R : RepXT} (C : ExpiryC R) (w : World) : Calls Try.prog 4 #[] w fun e w' => e = .returned (.bool true) ∧ Below w.heap.size w w' := by
  obtain ⟨i0, ji, hz0, hz1, hz2⟩ := info_parts infoLk
  have HC := Hid.mk' C
  have c0 : Hid (Calls Try.prog 6 #[] w fun e w' => ∃ p, e = .returned (ptr p) ∧ Hid (Kx R w none w' p [])) := by
    refine (Xe.new C w).mono ?_
    rintro e w' ⟨p, F, rfl, h⟩
    exact ⟨p, rfl, F, h.out.1, fun _ e => by cases e⟩
  refine (callsIn_wide (n := 8)).1 ?_
  refine callsIn_of_wp_marks Try.func4 rfl trivial ?_ rfl
  refine wpIn_wide.2 ?_
  simp only [Try.ntmps4, List.size_toArray, List.length_cons, List.length_nil, Nat.reduceAdd, Nat.reduceSub, Array.replicate_succ, Array.replicate_zero, List.push_toArray, List.append_toArray, List.nil_append, List.cons_append]
  go_wp2_with fail
  refine c0.out.mono ?_
  rintro e w1 ⟨p, rfl, HK⟩
  have cW : Hid (Calls Try.prog 5 #[] w1 fun e w' => e = .returned (.bool true) ∧ Hid (Kx R w none w' p [])) := by
    refine (works_any C w1).mono ?_
    rintro e w' ⟨rfl, hb⟩
    exact ⟨rfl, HK.out.below C hb⟩
  clear c0
  go_wp2_with fail
  refine cW.out.mono ?_
  rintro e w2 ⟨rfl, HK2⟩
  clear cW HK
  have c2 := Hid.mk' (HK2.out.next C 0 false ⟨rfl, rfl⟩)
  go_wp2_with fail
  refine c2.out.mono ?_
  rintro e w3 ⟨rfl, HK3⟩
  clear c2 HK2
  have c3 := Hid.mk' (HK3.out.forget C 3 (by unfold I64e; omega) false rfl (L' := []) rfl)
  go_wp2_with fail
  refine c3.out.mono ?_
  rintro e w4 ⟨rfl, HK4⟩
  clear c3 HK3
  have c4 := Hid.mk' (HK4.out.set C 3 1 9 (by unfold okE; dsimp only; omega) (L' := [⟨3, 1, 9⟩]) rfl)
  go_wp2_with fail
  refine c4.out.mono ?_
  rintro e w5 ⟨rfl, HK5⟩
  clear c4 HK4
  have c5 := Hid.mk' (HK5.out.set C 2 5 9 (by unfold okE; dsimp only; omega) (L' := [⟨2, 5, 9⟩, ⟨3, 1, 9⟩]) rfl)
  go_wp2_with fail
  refine c5.out.mono ?_
  rintro e w6 ⟨rfl, HK6⟩
  clear c5 HK5
  have c6 := Hid.mk' (HK6.out.set C 7 2 4 (by unfold okE; dsimp only; omega) (L' := [⟨7, 2, 4⟩, ⟨2, 5, 9⟩, ⟨3, 1, 9⟩]) rfl)
  go_wp2_with fail
  refine c6.out.mono ?_
  rintro e w7 ⟨rfl, HK7⟩
  clear c6 HK6
  have c7 := Hid.mk' (HK7.out.set C 3 6 8 (by unfold okE; dsimp only; omega) (L' := S4) rfl)
  go_wp2_with fail
  refine c7.out.mono ?_
  rintro e w8 ⟨rfl, HK8⟩
  clear c7 HK7
  have c8 := Hid.mk' (HK8.out.next C 4 true ⟨rfl, rfl⟩)
  go_wp2_with fail
  refine c8.out.mono ?_
  rintro e w9 ⟨rfl, HK9⟩
  clear c8 HK8
  obtain ⟨q, hq⟩ : ∃ q, w9.heap.size = q := ⟨_, rfl⟩
  obtain ⟨W9, hW9⟩ : ∃ W9, w9.alloc (.cells #[.slice none 0 0] 41) = W9 := ⟨_, rfl⟩
  have hb9 : Below w9.heap.size w9 W9 := by rw [← hW9]; exact (Below.refl _ _).alloc (Nat.le_refl _) _
  have hq9 : W9.heap[q]? = some (.cells #[.slice none 0 0] 41) := by rw [← hW9, ← hq]; exact heap_alloc_new _ _
  obtain ⟨F, hxe, _⟩ := HK9.out
  have hFl := C.lt hxe.rep
  have hx9 := hxe.below C hb9
  have cDu := Hid.mk' (hx9.due C 8)
  have HQ := Hid.mk' hq
  have HW9 := Hid.mk' hW9
  have HQ9 := Hid.mk' hq9
  have HFL := Hid.mk' hFl
  have HWL := Hid.mk' hxe.bel.size
  clear hq hW9 hb9 hq9 hxe hFl hx9 HK9
  go_upto_region 13 with fail
  rw [HW9.out, HQ.out]
  go_wp2_with fail
  refine cDu.out.mono ?_
  rintro e w20 ⟨gf, lb, rfl, HQD⟩
  obtain ⟨hx20, hb20, X, hit, hXn⟩ := HQD.out
  obtain ⟨gf', lb2, kk, e9, hent, hXl, hsq⟩ := hit
  simp only [Value.func.injEq, Fn.func.injEq, true_and] at e9
  obtain ⟨rfl, rfl⟩ := e9
  obtain ⟨hi, hhi⟩ : ∃ hi, w20.heap.size + 2 + kk = hi := ⟨_, rfl⟩
  have hsk : Sk R w w20 p X hi q F [] S4 w20 := by
    have h1 := (Array.getElem?_eq_some_iff.1 HQ9.out).1
    have h2 := hb20.size
    have h3 := HQ.out
    have h4 := HWL.out
    refine ⟨Lp.start C hx20 (fun j hj => ⟨hXl j hj, fun e => ?_, ?_⟩), .slice none 0 0, (hb20.block q h1).trans HQ9.out, World.ownsRow_nil _ _ _ _, fun g e => by simp [Value.ownBlock] at e, fun e => ?_, fun e => ?_, by omega, by omega⟩
    · have := HFL.out j e; have := hXn j hj; omega
    · have := hXn j hj; omega
    · have := HFL.out q e; omega
    · have := hXn q e; omega
  have HWL2 : Hid (w.heap.size ≤ w20.heap.size) := Hid.mk' (by
    have h1 := (Array.getElem?_eq_some_iff.1 HQ9.out).1
    have h2 := hb20.size
    have h3 := HQ.out
    have h4 := HWL.out
    omega)
  have HSK := Hid.mk' hsk
  have HHI := Hid.mk' hhi
  have HXL := Hid.mk' hXl
  have HSQ := Hid.mk' hsq
  clear hx20 hb20 hXn hsk hhi hsq HQD cDu HQ HW9 HQ9 HFL HWL
  go_wp2_with fail
  refine Rf.wp_rangeN rfl hent HSQ.out (fun _ => rfl) HXL.out
    (fun c mm W' => ∃ pre, Sk R w w20 p X hi q c.1 pre c.2 W' ∧ S4 = pre ++ c.2 ∧ (∀ y ∈ pre, y.t ≤ 8) ∧ c.2.length = mm)
    (fun c mm x W' => ∃ pre, Sk R w w20 p X hi q c.1 pre c.2 W' ∧ S4 = pre ++ x :: c.2 ∧ (∀ y ∈ pre, y.t ≤ 8) ∧ x.t ≤ 8 ∧ c.2.length + 1 = mm)
    (fun c mm x a' W' => ∃ xb, a' = { tmps := #[.bool false, ptr p, nu 4, .bool true, .pointer (some ⟨q, 0, none⟩), .pointer (some ⟨xb, 0, none⟩), undef, undef, undef, undef, undef, undef, undef, undef, ptr p, .bool true, .bool false, .bool false, ptr p, .bool false, .bool false, .tuple #[nu 0, .bool false], ptr p, .tuple #[nu 0, .bool false], nu 0, .bool false, .bool false, .bool false, nu 0, .bool false, .bool false, .bool false, ptr p, .bool false, .bool false, ptr p, .agg #[nu 3, nu 1], .nilIface, .bool false, .bool false, ptr p, .agg #[nu 2, nu 5], .nilIface, .bool false, .bool false, .bool false, ptr p, .agg #[nu 7, nu 2], .nilIface, .bool false, .bool false, .bool false, ptr p, .agg #[nu 3, nu 6], .nilIface, .bool false, .bool false, .tuple #[nu 4, .bool true], ptr p, .tuple #[nu 4, .bool true], nu 4, .bool true, .bool true, .bool false, .bool false, nu 4, .bool false, .bool false, ptr p, .func (.func gf) #[] lb, .agg #[nu x.s, nu x.b], undef, undef, undef, undef, undef, undef, undef, undef, undef, undef, undef, undef, undef, undef, undef, undef, undef, undef, undef, undef, undef, undef, undef, undef, undef, undef, undef, undef, undef, undef, undef, undef, undef, undef, undef, undef, undef, undef, undef, undef, undef, undef, undef, undef, undef, undef, undef, undef, undef, undef, undef, undef, undef, undef, undef, undef, undef, undef, undef, undef, undef, undef, undef, undef, undef, undef, undef, undef, undef, undef, undef, undef, undef, undef, undef, undef, undef, undef, undef, undef, undef, undef, undef, undef, undef, undef, undef, undef, undef, undef, undef, undef, undef, undef, undef, undef, undef, undef, undef, undef, undef, undef, undef, undef, undef, undef, undef, undef], defers := [] } ∧ W'.heap[xb]? = some (.cells #[nu x.s, nu x.b] 32) ∧ hi ≤ xb ∧ ¬ c.1 xb ∧ ∃ pre, Sk R w w20 p X hi q c.1 pre c.2 W' ∧ S4 = pre ++ x :: c.2 ∧ (∀ y ∈ pre, y.t ≤ 8) ∧ x.t ≤ 8 ∧ c.2.length + 1 = mm)
    (fun W' => ∃ F', Sk R w w20 p X hi q F' [⟨7, 2, 4⟩, ⟨3, 6, 8⟩] [⟨2, 5, 9⟩] W')
    (fun _ _ => False)
    3 ((F, S4) : Kn) ?ready ?foot ?restI ?restM ?restD ?restX ?step ?last ⟨[], HSK.out, rfl, by simp, rfl⟩ ?assign ?body ?done ?stop
  case ready =>
    rintro c mm W' ⟨pre, hS, _⟩
    exact hS.1.ready
  case foot =>
    rintro c mm W' ⟨pre, hS, _⟩ b hb
    rw [HHI.out]
    exact (hS.1.off b hb).2
  case restI =>
    intro c mm A B hk
    rw [HHI.out] at hk
    rintro ⟨pre, hS, h⟩
    exact ⟨pre, Sk.rest C A B hk hS, h⟩
  case restM =>
    intro c mm x a' A B hk
    rw [HHI.out] at hk
    rintro ⟨xb, h1, h2, h3, h4, pre, hS, h⟩
    exact ⟨xb, h1, hk.at h2 (by omega), h3, h4, pre, Sk.rest C A B hk hS, h⟩
  case restD =>
    intro A B hk
    rw [HHI.out] at hk
    rintro ⟨F', hS⟩
    exact ⟨F', Sk.rest C A B hk hS⟩
  case restX => exact fun _ _ _ _ h => h.elim
  case step =>
    rintro c mm x c' W0 W1' hsz ⟨pre, hS, hG, hp, hc⟩ hst
    rw [HHI.out] at hsz ⊢
    obtain ⟨e1, e2, e3, e4⟩ := Sk.step C hS hsz hst
    rw [e1] at hG hc
    exact ⟨⟨pre, e3, hG, hp, e2, hc⟩, e4⟩
  case last =>
    rintro c mm c' W0 W1' hsz ⟨pre, hS, hG, hp, hc⟩ hst
    rw [HHI.out]
    refine ⟨?_, Rf.Lets.keep (Keep.of_below (F := fun _ => False) hst.2) (fun _ e => e.elim)⟩
    obtain ⟨e1, e2⟩ := split4 hG hp hst.1
    have := Sk.below C hS hst.2
    rw [e1, e2] at this
    exact ⟨_, this⟩
  case assign =>
    rintro l' c mm x W' K ⟨pre, hS, hG, hp, ht, hc⟩ hsz hK
    have HAA := Hid.mk' hS
    have HGG := Hid.mk' hG
    have HPP := Hid.mk' hp
    have HT := Hid.mk' ht
    clear hS hG ht hp
    obtain ⟨xb, hxb⟩ : ∃ xb, W'.heap.size = xb := ⟨_, rfl⟩
    obtain ⟨Wz, hWz⟩ : ∃ Wz, W'.alloc (.cells #[nu 0, nu 0] 32) = Wz := ⟨_, rfl⟩
    have hz : Wz.heap[xb]? = some (.cells #[nu 0, nu 0] 32) := by rw [← hWz, ← hxb]; exact heap_alloc_new _ _
    have hkz : Keep (fun _ => False) W' Wz := by rw [← hWz]; exact (Keep.refl _ _).alloc _
    have HZ := Hid.mk' hz
    have HXB := Hid.mk' hxb
    have HWZ := Hid.mk' hWz
    have HKZ := Hid.mk' hkz
    have HSZ := Hid.mk' hsz
    have HK := Hid.mk' hK
    clear hz hxb hWz hkz hsz hK
    gi_wp2_with (first | (rw [HWZ.out, HXB.out]; refine wpListIn_store_lnk rfl _ _ rfl xb rfl _ _ rfl _ _ HZ.out ?_; intro w8 hl8 hg8 hs8; have HL8 := Hid.mk' hl8; have HG8 := Hid.mk' hg8; clear hl8 hg8 hs8) | fail)
    have hk8 : Keep (fun _ => False) W' w8 := HKZ.out.grown HG8.out (fun j e => .inr (by injection e with e; have := HXB.out; omega))
    have hlt : ∀ j, c.1 j → j < xb := fun j hj => by have := C.lt HAA.out.1.xe.rep j hj; have := HXB.out; omega
    refine HK.out _ _ (Rf.Lets.keep hk8 (fun _ e => e.elim)) ⟨xb, rfl, HL8.out, ?_, fun e => ?_, pre, HAA.out.keep C hk8 (fun _ e => e.elim), HGG.out, HPP.out, HT.out, hc⟩
    · have := HSZ.out; have := HHI.out; have := HXB.out; omega
    · have := hlt _ e; omega
  case body =>
    rintro l' c mm x a' W5 ⟨xb, rfl, hlx, hhx, hn1, pre, hS, hG, hp, ht, hc⟩ hsz
    rw [HHI.out] at hsz
    obtain ⟨F1, L1⟩ := c
    dsimp only at hS hG hn1 hc
    obtain ⟨s1, v, s3, s4, s5, s6, s7, s8, s9⟩ := hS
    obtain ⟨np, hnp⟩ : ∃ np, pre.length = np := ⟨_, rfl⟩
    have hnp3 : np ≤ 2 := by
      have := congrArg List.length hG
      rw [List.length_append, List.length_cons] at this
      have e : S4.length = 3 := rfl
      omega
    obtain ⟨PX, hPX⟩ : ∃ PX, (pre.map (fun y => (y.s, y.b))).flatMap lkc = PX := ⟨_, rfl⟩
    have hpc : ((pre ++ [x]).map (fun y => (y.s, y.b))).flatMap lkc = PX ++ [nu x.s, nu x.b] := by
      rw [List.map_append, List.flatMap_append, hPX]
      rfl
    rw [hnp, hPX] at s4
    have hFlt := C.lt s1.xe.rep
    have HGD : Hid (∀ (v' : Value) (w1 : World), w1.ownsRow hi 32 2 v' (np + 1) (PX ++ [nu x.s, nu x.b]) → (W5.alloc (.cells #[nu x.s, nu x.b] 32)).grownBy w1 v.ownBlock → (v'.ownBlock = v.ownBlock ∨ v'.ownBlock = some (W5.alloc (.cells #[nu x.s, nu x.b] 32)).heap.size) →
        (w1.cell? ⟨q, 0, none⟩ = some v ∧ w1.frozen? ⟨q, 0, none⟩ = false) ∧ Hid (Rf.Lets X w20.heap.size (w20.heap.size + 2 + kk) W5 (w1.setCell ⟨q, 0, none⟩ v') ∧ ∃ (c : Kn) (j : Nat), j < mm ∧ ∃ pre, Sk R w w20 p X hi q c.1 pre c.2 (w1.setCell ⟨q, 0, none⟩ v') ∧ S4 = pre ++ c.2 ∧ (∀ y ∈ pre, y.t ≤ 8) ∧ c.2.length = j)) := fun v' w1 ho hg hat => by
      have k0 : Keep (fun k => v.ownBlock = some k) W5 w1 := ((Keep.refl (fun k => v.ownBlock = some k) W5).alloc _).grown hg (fun k e => .inl e)
      have hqv : ¬ v.ownBlock = some q := fun e => by have := (s4.lt q e).1; have := HHI.out; omega
      have q1 := k0.at s3 hqv
      have k1 : Keep (fun k => v.ownBlock = some k ∨ k = q) W5 (w1.setCell ⟨q, 0, none⟩ v') := (k0.weaken (fun _ _ e => .inl e)).trans (set_keepQ w1 q 0 v') (fun _ _ e => .inr e)
      have hE : ∀ k, (v.ownBlock = some k ∨ k = q) → ¬ F1 k ∧ ¬ X k ∧ w.heap.size ≤ k ∧ ¬ (w20.heap.size ≤ k ∧ k < hi) := fun k hk => by
        have hh := HHI.out
        rcases hk with e | e
        · have h1 := (s4.lt k e).1
          have h2 := s1.sz0
          exact ⟨s5 k e, fun hx => by have := (s1.x k hx).1; omega, by omega, by omega⟩
        · exact ⟨e ▸ s6, e ▸ s7, by omega, by omega⟩
      refine ⟨⟨by rw [cell_of_row w1 q 0 _ _ _ q1]; rfl, by simp [World.frozen?, q1]⟩, ?_⟩
      show _ ∧ _
      rw [HHI.out]
      refine ⟨Rf.Lets.keep k1 (fun k hk => ⟨(hE k hk).2.1, (hE k hk).2.2.2⟩), ((F1, L1) : Kn), L1.length, by omega, pre ++ [x], ⟨s1.keep C k1 (fun k hk => ⟨(hE k hk).1, (hE k hk).2.1, (hE k hk).2.2.1⟩), v', ?_, ?_, fun g e => ?_, s6, s7, s8, s9⟩, by rw [List.append_assoc]; exact hG, fun y hy => ?_, rfl⟩
      · rw [heap_setCell_same _ q 0 _ _ _ q1]
        rfl
      · rw [hpc, List.length_append, List.length_singleton, hnp]
        exact (set_keepQ w1 q 0 v').own ho (fun g e e2 => by have := (ho.lt g e).1; have := HHI.out; omega)
      · rcases hat with e1 | e1
        · exact s5 g (e1 ▸ e)
        · rw [e1] at e
          injection e with e
          rw [World.size_alloc] at e
          exact fun hf => by have := hFlt g hf; omega
      · rcases List.mem_append.1 hy with hy | hy
        · exact hp y hy
        · obtain rfl := List.mem_singleton.1 hy
          exact ht
    obtain ⟨xs, xbi, xt⟩ := x
    dsimp only at HGD hlx ⊢
    obtain ⟨x0, x1⟩ := link_cells hlx
    have hqc : W5.cell? ⟨q, 0, none⟩ = some v := by rw [cell_of_row W5 q 0 _ _ _ s3]; rfl
    have HS4 := Hid.mk' s4
    clear hlx hhx hn1 s1 s3 s4 s5 s6 s7 s8 s9 hG hp ht hc hnp hPX hpc hFlt
    gi_wp2_with (gi_at_builtin; go_loud (refine wpListIn_append_own_at _ rfl _ _ 41 rfl hi 32 i0 (.agg #[.int .i64 0, .int .i64 0]) 2 16 Try.underlying41 ji hz0 hz1 hz2 rfl (by decide) v np _ rfl (HS4.out.alloc _) ⟨W5.heap.size, 0, none⟩ 1 1 [nu xs, nu xbi] rfl rfl (World.news_of_block (heap_alloc_new _ _)) (by simp [Value.oneCell']) (by unfold maxLen; omega) (by omega) (by simp; omega) ?_; intro v' w1 hown' hgrow _ hat; obtain ⟨⟨hc1, hf1⟩, HGO⟩ := HGD.out v' w1 hown' hgrow hat; obtain ⟨g', cap', rfl⟩ := ownsRow_succ hown'; clear hown' hgrow hat))
    exact HGO.out
  case done =>
    rintro W12 ⟨F', hS⟩ hK
    obtain ⟨s1, v, s3, s4, s5, s6, s7, s8, s9⟩ := hS
    have hrl := own_rdL (L := [(7, 2), (3, 6)]) s4 rfl
    have hqc : W12.cell? ⟨q, 0, none⟩ = some v := by rw [cell_of_row W12 q 0 _ _ _ s3]; rfl
    have hba : Below W12.heap.size W12 (W12.alloc (.cells #[nu 7, nu 2, nu 3, nu 6] 32)) := (Below.refl _ _).alloc (Nat.le_refl _) _
    have hkx : Kx R w (some w20.heap.size) W12 p [⟨2, 5, 9⟩] := ⟨F', s1.xe, fun d e => by
      cases e
      exact ⟨hK, fun hf => (s1.off _ hf).2 ⟨Nat.le_refl _, by have := HHI.out; omega⟩⟩⟩
    have cS : Hid (Calls Try.prog 12 #[v, .slice (some ⟨W12.heap.size, 0, none⟩) 2 2] (W12.alloc (.cells #[nu 7, nu 2, nu 3, nu 6] 32)) fun e w' => e = .returned (.bool true) ∧ Hid (Kx R w (some w20.heap.size) w' p [⟨2, 5, 9⟩])) := by
      refine (sameL _ _ _ _ (hrl.below hba) (rdL_new (heap_alloc_new _ _))).mono ?_
      rintro e w' ⟨rfl, hb⟩
      exact ⟨rfl, (hkx.below C hba).below C hb⟩
    clear s1 s3 s4 s5 s6 s7 s8 s9 hrl hK hba hkx
    go_wp2_with fail
    refine cS.out.mono ?_
    rintro e w21 ⟨rfl, HK21⟩
    clear cS hqc
    have c21 := Hid.mk' (HK21.out.next C 9 true ⟨rfl, rfl⟩)
    go_wp2_with fail
    refine c21.out.mono ?_
    rintro e w22 ⟨rfl, HK22⟩
    clear c21 HK21
    have c22 := Hid.mk' (HK22.out.forget C 2 (by unfold I64e; omega) true rfl (L' := []) rfl)
    go_wp2_with fail
    refine c22.out.mono ?_
    rintro e w23 ⟨rfl, HK23⟩
    clear c22 HK22
    have c23 := Hid.mk' (HK23.out.forget C 2 (by unfold I64e; omega) false rfl (L' := []) rfl)
    go_wp2_with fail
    refine c23.out.mono ?_
    rintro e w24 ⟨rfl, HK24⟩
    clear c23 HK23
    have c24 := Hid.mk' (HK24.out.forget C (-1) (by unfold I64e; omega) false rfl (L' := []) rfl)
    go_wp2_with fail
    refine c24.out.mono ?_
    rintro e w25 ⟨rfl, HK25⟩
    clear c24 HK24
    have c25 := Hid.mk' (HK25.out.forget C 32 (by unfold I64e; omega) false rfl (L' := []) rfl)
    go_wp2_with fail
    refine c25.out.mono ?_
    rintro e w26 ⟨rfl, HK26⟩
    clear c25 HK25
    have c26 := Hid.mk' (HK26.out.next C 0 false ⟨rfl, rfl⟩)
    go_wp2_with fail
    refine c26.out.mono ?_
    rintro e w27 ⟨rfl, HK27⟩
    clear c26 HK26
    have c27 := Hid.mk' (HK27.out.no C 32 1 5 (by unfold okE; dsimp only; omega))
    go_wp2_with fail
    refine c27.out.mono ?_
    rintro e w28 ⟨rfl, HK28⟩
    clear c27 HK27
    have c28 := Hid.mk' (HK28.out.no C 0 0 5 (by unfold okE; dsimp only; omega))
    go_wp2_with fail
    refine c28.out.mono ?_
    rintro e w29 ⟨rfl, HK29⟩
    clear c28 HK28
    have c29 := Hid.mk' (HK29.out.no C 0 1 (-1) (by unfold okE; dsimp only; omega))
    go_wp2_with fail
    refine c29.out.mono ?_
    rintro e w30 ⟨rfl, HK30⟩
    clear c29 HK29
    have c30 := Hid.mk' (HK30.out.no C 0 1 1099511627777 (by unfold okE; dsimp only; omega))
    go_wp2_with fail
    refine c30.out.mono ?_
    rintro e w31 ⟨rfl, HK31⟩
    clear c30 HK30
    have c31 := Hid.mk' (HK31.out.no C (-1) 1 5 (by unfold okE; dsimp only; omega))
    go_wp2_with fail
    refine c31.out.mono ?_
    rintro e w32 ⟨rfl, HK32⟩
    clear c31 HK31
    have c32 := Hid.mk' (HK32.out.no C 0 1048577 5 (by unfold okE; dsimp only; omega))
    go_wp2_with fail
    refine c32.out.mono ?_
    rintro e w33 ⟨rfl, HK33⟩
    clear c32 HK32
    have c33 := Hid.mk' (HK33.out.next C 0 false ⟨rfl, rfl⟩)
    go_wp2_with fail
    refine c33.out.mono ?_
    rintro e w34 ⟨rfl, HK34⟩
    clear c33 HK33
    have c34 := Hid.mk' (HK34.out.num C)
    go_wp2_with fail
    refine c34.out.mono ?_
    rintro e w35 ⟨rfl, HK35⟩
    clear c34 HK34
    have c35 := Hid.mk' (HK35.out.num C)
    go_wp2_with fail
    refine c35.out.mono ?_
    rintro e w36 ⟨rfl, HK36⟩
    clear c35 HK35
    have c36 := Hid.mk' (HK36.out.num C)
    go_wp2_with fail
    refine c36.out.mono ?_
    rintro e w37 ⟨rfl, HK37⟩
    clear c36 HK36
    have c37 := Hid.mk' (HK37.out.num C)
    go_wp2_with fail
    refine c37.out.mono ?_
    rintro e w38 ⟨rfl, HK38⟩
    clear c37 HK37
    have c38 := Hid.mk' (HK38.out.num C)
    go_wp2_with fail
    refine c38.out.mono ?_
    rintro e w39 ⟨rfl, HK39⟩
    clear c38 HK38
    have c39 := Hid.mk' (HK39.out.num C)
    go_wp2_with fail
    refine c39.out.mono ?_
    rintro e w40 ⟨rfl, HK40⟩
    clear c39 HK39
    have c40 := Hid.mk' (HK40.out.set C 31 1048576 1099511627776 (by unfold okE; dsimp only; omega) (L' := [⟨31, 1048576, 1099511627776⟩]) rfl)
    go_wp2_with fail
    refine c40.out.mono ?_
    rintro e w41 ⟨rfl, HK41⟩
    clear c40 HK40
    go_wp2_with fail
    have HB41 := Hid.mk' HK41.out.bel
    obtain ⟨F41, h41, h42⟩ := HK41.out
    obtain ⟨hd41, hn41⟩ := h42 _ rfl
    clear h41 h42 hn41
    refine ⟨by simp, .inl ⟨_, _, rfl, run_takeDeferred hd41, ?_⟩⟩
    refine ⟨_, results_tmp rfl _ _ _, rfl, ?_⟩
    exact HB41.out.grown (grownBy_putObj' _ _ _) HB41.out.size (fun r e => by cases e; have := HWL2.out; omega)
  case stop => exact fun _ _ h => h.elim
end Ex
end Go.Proofs.Ythjdpfmnbmnbhaa
