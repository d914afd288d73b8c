import Derived.Test.YthdibodmnpcekaaGreatDoorRopL
import Derived.Test.YthdibodmnpcekaaGreatDoorApartY
import Derived.Test.YthdibodmnpcekaaGreatDoorSameR
import Derived.Test.YthdibodmnpcekaaGreatDoorErrM
/- A disk and a log, and the same as the document has it: how they lie side by side. -/
namespace Go.Proofs.YthdibodmnpcekaaGreatDoor
set_option linter.ambiguousOpen false
open Go.RowKit
namespace Lo
open Sm Ft Dk
set_option linter.unusedSimpArgs false
set_option linter.unusedVariables false

/-- All blocks bear a mark: 1 the disk's, 2 the document's disk's, 3 the log's, 4 the document's log's, 5 what holds them; from 6 on: others. -/
structure Sw (Rep : World → Nat → (Nat → Prop) → Dsk → Prop) (w wr : World) (B p q g m : Nat) (F G : Nat → Prop) (d : Dsk) (l : Lg) (e : Dsk) (n : Lg) (τ : Nat → Nat) : Prop where
  blk : wr.heap[B]? = some (.cells #[ptr p, ptr q, ptr g, ptr m] 45)
  rep : Rep wr p F d
  pl : Pl wr q p l
  ref : RepR w.heap.size wr g G e
  ql : Ql wr m g n
  tf : ∀ k, F k → τ k = 1
  tg : ∀ k, G k → τ k = 2
  tq : τ q = 3
  tm : τ m = 4
  tb : τ B = 5
  lf : ∀ k, F k → w.heap.size ≤ k
  lq : w.heap.size ≤ q
  lm : w.heap.size ≤ m
  lb : w.heap.size ≤ B
  bel : Below w.heap.size w wr

section
variable {Rep : World → Nat → (Nat → Prop) → Dsk → Prop} {w wr w' : World} {B p q g m : Nat} {F G F' G' : Nat → Prop} {d e d' : Dsk} {l n l' : Lg} {τ : Nat → Nat}

theorem Sw.blt (h : Sw Rep w wr B p q g m F G d l e n τ) : B < wr.heap.size := (Array.getElem?_eq_some_iff.1 h.blk).1

/-- What has other marks may turn. -/
theorem Sw.keep (H : Says Rep) (h : Sw Rep w wr B p q g m F G d l e n τ) {K : Nat → Prop} (hk : Keep K wr w') (hK : ∀ k, K k → 6 ≤ τ k ∧ w.heap.size ≤ k) : Sw Rep w w' B p q g m F G d l e n τ := by
  have o : ∀ k, τ k < 6 → ¬ K k := fun k hk hc => by have := (hK k hc).1; omega
  refine ⟨hk.at h.blk (o B (by rw [h.tb]; decide)), H.keep h.rep hk (fun k hf => o k (by rw [h.tf k hf]; decide)), hk.at h.pl (o q (by rw [h.tq]; decide)), h.ref.keep hk (fun k hf => o k (by rw [h.tg k hf]; decide)), hk.at h.ql (o m (by rw [h.tm]; decide)), h.tf, h.tg, h.tq, h.tm, h.tb, h.lf, h.lq, h.lm, h.lb, ?_⟩
  exact h.bel.trans (hk.below (fun k hk hc => by have := (hK k hc).2; omega) h.bel.size)

theorem Sw.below (H : Says Rep) (h : Sw Rep w wr B p q g m F G d l e n τ) (hb : Below wr.heap.size wr w') : Sw Rep w w' B p q g m F G d l e n τ :=
  h.keep H (Keep.of_below (F := fun _ => False) hb) (fun k hk => hk.elim)

/-- The marks of what is new. -/
def later (W : World) (τ : Nat → Nat) (c : Nat) : Nat → Nat := fun k => if k < W.heap.size then τ k else c

theorem later_old {W : World} {τ : Nat → Nat} {c k : Nat} (h : k < W.heap.size) : later W τ c k = τ k := if_pos h

theorem later_new {W : World} {τ : Nat → Nat} {c k : Nat} (h : W.heap.size ≤ k) : later W τ c k = c := if_neg (by omega)

theorem Sw.fresh (H : Says Rep) (h : Sw Rep w wr B p q g m F G d l e n τ) (hb : Below wr.heap.size wr w') (c : Nat) : Sw Rep w w' B p q g m F G d l e n (later wr τ c) := by
  have h' := h.below H hb
  exact ⟨h'.blk, h'.rep, h'.pl, h'.ref, h'.ql, fun k hk => (later_old (H.lt h.rep k hk)).trans (h.tf k hk), fun k hk => (later_old (h.ref.lt k hk).2).trans (h.tg k hk), (later_old h.pl.lt).trans h.tq, (later_old h.ql.lt).trans h.tm, (later_old h.blt).trans h.tb, h.lf, h.lq, h.lm, h.lb, h'.bel⟩

/-- The program's disk and log have turned. -/
theorem Sw.app1 (H : Says Rep) (h : Sw Rep w wr B p q g m F G d l e n τ) (hr : Rep w' p F' d') (hp : Pl w' q p l') (hk : Keep (fun k => k = q ∨ F k) wr w') (hg : Goes wr F F') : Sw Rep w w' B p q g m F' G d' l' e n (later wr τ 1) := by
  have o : ∀ k, τ k ≠ 1 → τ k ≠ 3 → ¬ (k = q ∨ F k) := fun k h1 h3 hc => by
    rcases hc with rfl | hc
    · exact h3 h.tq
    · exact h1 (h.tf k hc)
  refine ⟨hk.at h.blk (o B (by rw [h.tb]; decide) (by rw [h.tb]; decide)), hr, hp, h.ref.keep hk (fun k hf => o k (by rw [h.tg k hf]; decide) (by rw [h.tg k hf]; decide)), hk.at h.ql (o m (by rw [h.tm]; decide) (by rw [h.tm]; decide)), fun k hf => ?_, fun k hf => (later_old (h.ref.lt k hf).2).trans (h.tg k hf), (later_old h.pl.lt).trans h.tq, (later_old h.ql.lt).trans h.tm, (later_old h.blt).trans h.tb, fun k hf => ?_, h.lq, h.lm, h.lb, ?_⟩
  · rcases hg k hf with h1 | h1
    · exact (later_old (H.lt h.rep k h1)).trans (h.tf k h1)
    · exact later_new h1
  · rcases hg k hf with h1 | h1
    · exact h.lf k h1
    · exact Nat.le_trans h.bel.size h1
  · exact h.bel.trans (hk.below (fun k hk hc => by
      rcases hc with rfl | hc
      · have := h.lq; omega
      · have := h.lf k hc; omega) h.bel.size)

/-- The document's disk and log have turned. -/
theorem Sw.app2 (H : Says Rep) (h : Sw Rep w wr B p q g m F G d l e n τ) (hr : RepR w.heap.size w' g G' d') (hp : Ql w' m g l') (hk : Keep (fun k => k = m ∨ G k) wr w') (hg : Goes wr G G') : Sw Rep w w' B p q g m F G' d l d' l' (later wr τ 2) := by
  have o : ∀ k, τ k ≠ 2 → τ k ≠ 4 → ¬ (k = m ∨ G k) := fun k h1 h3 hc => by
    rcases hc with rfl | hc
    · exact h3 h.tm
    · exact h1 (h.tg k hc)
  refine ⟨hk.at h.blk (o B (by rw [h.tb]; decide) (by rw [h.tb]; decide)), H.keep h.rep hk (fun k hf => o k (by rw [h.tf k hf]; decide) (by rw [h.tf k hf]; decide)), hk.at h.pl (o q (by rw [h.tq]; decide) (by rw [h.tq]; decide)), hr, hp, fun k hf => (later_old (H.lt h.rep k hf)).trans (h.tf k hf), fun k hf => ?_, (later_old h.pl.lt).trans h.tq, (later_old h.ql.lt).trans h.tm, (later_old h.blt).trans h.tb, h.lf, h.lq, h.lm, h.lb, ?_⟩
  · rcases hg k hf with h1 | h1
    · exact (later_old (h.ref.lt k h1).2).trans (h.tg k h1)
    · exact later_new h1
  · exact h.bel.trans (hk.below (fun k hk hc => by
      rcases hc with rfl | hc
      · have := h.lm; omega
      · have := (h.ref.lt k hc).1; omega) h.bel.size)

/-- The program's disk alone. -/
theorem Sw.turn1 (H : Says Rep) (h : Sw Rep w wr B p q g m F G d l e n τ) (hr : Rep w' p F' d') (hk : Keep F wr w') (hg : Goes wr F F') : Sw Rep w w' B p q g m F' G d' l e n (later wr τ 1) :=
  h.app1 H hr (hk.at h.pl (fun hc => by have := h.tf q hc; rw [h.tq] at this; cases this)) (hk.weaken (fun _ _ e => .inr e)) hg

/-- The document's disk alone. -/
theorem Sw.turn2 (H : Says Rep) (h : Sw Rep w wr B p q g m F G d l e n τ) (hr : RepR w.heap.size w' g G d') (hk : Keep G wr w') : Sw Rep w w' B p q g m F G d l d' n (later wr τ 2) :=
  h.app2 H hr (hk.at h.ql (fun hc => by have := h.tg m hc; rw [h.tm] at this; cases this)) (hk.weaken (fun _ _ e => .inr e)) (Goes.refl _ _)

/-- Other logs on the same disks. -/
theorem Sw.renew (H : Says Rep) {q2 m2 : Nat} (h : Sw Rep w wr B p q g m F G d l e n τ) (hb : Below wr.heap.size wr w') (hp : Pl w' q2 p l') (hq : Ql w' m2 g l') (h1 : wr.heap.size ≤ q2) (h2 : wr.heap.size ≤ m2) (h3 : q2 ≠ m2) :
    (w'.heap[B]? = some (.cells #[ptr p, ptr q, ptr g, ptr m] 45) ∧ (w'.setCell ⟨B, 1, none⟩ (ptr q2)).heap[B]? = some (.cells #[ptr p, ptr q2, ptr g, ptr m] 45)) ∧
    Sw Rep w ((w'.setCell ⟨B, 1, none⟩ (ptr q2)).setCell ⟨B, 3, none⟩ (ptr m2)) B p q2 g m2 F G d l' e l' (fun k => if k < wr.heap.size then τ k else if k = q2 then 3 else if k = m2 then 4 else 8) := by
  have h' := h.below H hb
  have e1 : (w'.setCell ⟨B, 1, none⟩ (ptr q2)).heap[B]? = some (.cells #[ptr p, ptr q2, ptr g, ptr m] 45) := heap_setCell_same _ B 1 _ _ _ h'.blk
  have e2 : ((w'.setCell ⟨B, 1, none⟩ (ptr q2)).setCell ⟨B, 3, none⟩ (ptr m2)).heap[B]? = some (.cells #[ptr p, ptr q2, ptr g, ptr m2] 45) := heap_setCell_same _ B 3 _ _ _ e1
  have hK : Keep (fun k => k = B) w' ((w'.setCell ⟨B, 1, none⟩ (ptr q2)).setCell ⟨B, 3, none⟩ (ptr m2)) := ((Keep.refl (fun k => k = B) w').setCell (p := ⟨B, 1, none⟩) (.inl rfl) _).setCell (p := ⟨B, 3, none⟩) (.inl rfl) _
  have hB := h.blt
  have o : ∀ k, τ k ≠ 5 → k ≠ B := fun k hk e => hk (by rw [e]; exact h.tb)
  refine ⟨⟨h'.blk, e1⟩, e2, H.keep h'.rep hK (fun k hf => o k (by rw [h.tf k hf]; decide)), hK.at hp (by omega), h'.ref.keep hK (fun k hf => o k (by rw [h.tg k hf]; decide)), hK.at hq (by omega), fun k hf => ?_, fun k hf => ?_, ?_, ?_, ?_, h.lf, Nat.le_trans h.bel.size h1, Nat.le_trans h.bel.size h2, h.lb, ?_⟩
  · simp only [H.lt h.rep k hf, if_true]
    exact h.tf k hf
  · simp only [(h.ref.lt k hf).2, if_true]
    exact h.tg k hf
  · simp only [if_neg (show ¬ q2 < wr.heap.size by omega), if_true]
  · simp only [if_neg (show ¬ m2 < wr.heap.size by omega), if_neg (show ¬ m2 = q2 from fun e => h3 e.symm), if_true]
  · simp only [hB, if_true]
    exact h.tb
  · exact h'.bel.trans (hK.below (fun k hk hc => by have := h.lb; omega) h'.bel.size)

theorem Sw.cells (h : Sw Rep w wr B p q g m F G d l e n τ) : wr.cell? ⟨B, 0, none⟩ = some (ptr p) ∧ wr.cell? ⟨B, 1, none⟩ = some (ptr q) ∧ wr.cell? ⟨B, 2, none⟩ = some (ptr g) ∧ wr.cell? ⟨B, 3, none⟩ = some (ptr m) ∧ ∀ i, wr.frozen? ⟨B, i, none⟩ = false := by
  simp [World.cell?, World.frozen?, h.blk]
end

theorem wl_cells {w : World} {B : Nat} {a b c d : Value} (h : w.heap[B]? = some (.cells #[a, b, c, d] 45)) : w.cell? ⟨B, 0, none⟩ = some a ∧ w.cell? ⟨B, 1, none⟩ = some b ∧ w.cell? ⟨B, 2, none⟩ = some c ∧ w.cell? ⟨B, 3, none⟩ = some d ∧ ∀ i, w.frozen? ⟨B, i, none⟩ = false := by
  simp [World.cell?, World.frozen?, h]

theorem below_fromS {w a b : World} (h : Below w.heap.size w a) (k : Below a.heap.size a b) : Below w.heap.size w b := h.trans (k.mono h.size)

theorem plainL (n : Nat) (h : n ≤ 24) (w : World) (hg : Er.Handle w) : Calls Tryz.prog 10 #[errE n, nu n] w fun e w' => e = .returned (.bool true) ∧ Below w.heap.size w w' := by
  cases n with
  | zero => exact Er.plain_nil 0 w
  | succ n =>
    have := Er.plain_no (n + 1) ((n + 1 : Nat) : Int) (by omega) h w hg
    rw [decide_eq_true rfl] at this
    exact this

set_option maxRecDepth 100000 in
theorem apart_nil (W : World) : Calls Tryz.prog 34 #[.slice none 0 0] W fun e w' => e = .returned (.bool true) ∧ w' = W := by
  go_enter Tryz.func34, Tryz.ntmps34
  go_wp2
  go_loopw [3] (fun kv wr => kv = .int .i64 0 ∧ wr = W) (fun _ _ => 0)
  case atStart => exact ⟨rfl, rfl⟩
  case round =>
  obtain ⟨rfl, rfl⟩ := hrel
  go_wp2
  rename World => w2
  go_loopw [5, 6] (fun gv kv wr => gv = .slice none 0 0 ∧ kv = .int .i64 0 ∧ wr = w2) (fun _ _ _ => 0)
  case atStart => exact ⟨rfl, rfl, rfl⟩
  case round =>
  obtain ⟨rfl, rfl, rfl⟩ := hrel
  go_wp2
  rename World => w3
  go_loopw [9] (fun kv wr => kv = .int .i64 0 ∧ wr = w3) (fun _ _ => 0)
  case atStart => exact ⟨rfl, rfl⟩
  case round =>
  obtain ⟨rfl, rfl⟩ := hrel
  go_wp2
  go_ret
  exact ⟨rfl, rfl⟩

theorem own_sepT {W : World} {base b2 n k s1 s2 : Nat} {e1 e2 : TypeId} {x y : Value} {xs ys : List Value} (hx : W.ownsRow base e1 s1 x n xs) (hy : W.ownsRow b2 e2 s2 y k ys) (ht : e1 ≠ e2) : Nm.Sep x y := by
  intro b h1 h2
  rcases hx.2 with ⟨e, _⟩ | ⟨g, cap, cur, e, _, hg, _⟩
  · rw [e] at h1
    simp [Value.ownBlock] at h1
  rcases hy.2 with ⟨f, _⟩ | ⟨g', cap', cur', f, _, hg', _⟩
  · rw [f] at h2
    simp [Value.ownBlock] at h2
  rw [e] at h1
  rw [f] at h2
  obtain rfl : g = b := by simpa [Value.ownBlock] using h1
  obtain rfl : g' = g := by simpa [Value.ownBlock] using h2
  rw [hg] at hg'
  simp at hg'
  exact ht hg'.2

/-- The rows that Open has told, handed to ApartBytes. -/
theorem told_apart {W : World} {M : Nat} {r : Value} {us : List Value} {qs : List (List UInt8)} (ho : W.ownsRow M 46 1 r us.length us) (hr : Rc.Rows W M us qs) (hM : M ≤ W.heap.size) (hn : us.length < 4000000) (hq : ∀ q ∈ qs, q.length ≤ 512) : Calls Tryz.prog 34 #[r] W fun e w' => e = .returned (.bool true) ∧ Keep (Pk.Wb us) W w' := by
  rcases ho.2 with ⟨hv, h0⟩ | ⟨L, cap, cur, hv, hb, hL, hc1, hc2, _⟩
  · subst hv
    refine (apart_nil W).mono ?_
    rintro e w' ⟨rfl, rfl⟩
    exact ⟨rfl, Keep.refl _ _⟩
  · subst hv
    have hLs : Pk.LsR W M L us (fun l => (qs.getD l []).length) (fun l => (qs.getD l []).map by1) := by
      refine ⟨fun l hl => ?_, fun l hl => ?_, (ho.lt L rfl).2, hM⟩
      · have hq : qs[l]? = some (qs[l]'(by rw [← hr.len]; exact hl)) := List.getElem?_eq_getElem _
        have := hr.own l us[l] _ (List.getElem?_eq_getElem hl) hq
        simp only [List.getD_eq_getElem?_getD, hq, Option.getD_some]
        exact this
      · have := ho.cells (g := L) rfl l us[l] (List.getElem?_eq_getElem hl)
        rw [Addr.add_lit, Nat.zero_add] at this
        exact this
    have hAp : Pk.ApartR L us := ⟨fun l m hl hm hne => hr.apart l m _ _ hne (List.getElem?_eq_getElem hl) (List.getElem?_eq_getElem hm), fun l hl e => by
      obtain ⟨p, hp⟩ := hr.at_ (List.getElem_mem hl)
      exact own_sepT ho hp (by decide) L rfl e⟩
    refine (Pk.apartY_l us _ M L cap _ W hLs hAp hn (fun l => ?_) hc1 hc2).mono ?_
    · show (qs.getD l []).length < 1000000000
      rw [List.getD_eq_getElem?_getD]
      cases hl : qs[l]? with
      | none => simp
      | some q =>
        have := hq q (List.mem_of_getElem? hl)
        simp only [Option.getD_some]
        omega
    · rintro e w' ⟨rfl, hk, _⟩
      exact ⟨rfl, hk⟩
end Lo
end Go.Proofs.YthdibodmnpcekaaGreatDoor
