import Derived.Test.YthabnombfbehkaaSwpU
import Derived.Test.YthabnombfbehkaaTrM
import Derived.Maps.AppendAt
/- The law's hung: slots taken, used and hung, one by one. -/
namespace Go.Proofs.Ythabnombfbehkaa
set_option linter.ambiguousOpen false
open Go.RowKit
namespace Sw
open An Rg Ft Lv
set_option linter.unusedSimpArgs false
set_option linter.unusedVariables false

/-- What the program's tree must answer here. -/
structure HungC (Rep : World → Nat → (Nat → Prop) → Arn → Prop) (R : RepTy) : Prop where
  keep : ∀ q l, KeepC (R.ar q l)
  take : ∀ q l, TakeC (R.ar q l)
  put : ∀ q l, PutC (R.ar q l)
  new : ∀ (w : World) (p : Nat) (F : Nat → Prop) (A : Arn), Rep w p F A → An.Good A → Calls Try.prog 18 #[ptr p] w fun e w' => ∃ q G, e = .returned (ptr q) ∧ R w' p q G A (-1) ∧ (∀ k, G k → F k ∨ w.heap.size ≤ k) ∧ Below w.heap.size w w'
  add : ∀ (w : World) (p q : Nat) (F : Nat → Prop) (A : Arn) (l i us ub : Int), R w p q F A l → An.Good A → A.wr ≤ 999999980 → I64 i → I64 us → I64 ub → Calls Try.prog 21 #[ptr q, nu i, Tr.lkU us ub] w fun e w' => e = .returned (errP (Tr.addT A.sl l i us ub).no (Tr.addT A.sl l i us ub).pl) ∧ ∃ n, n ≤ 8 ∧ ((Tr.addT A.sl l i us ub).no ≠ 0 → n = 0) ∧ LeftT R w w' p q F ⟨(Tr.addT A.sl l i us ub).sl, A.fr, A.wr + n⟩ (Tr.addT A.sl l i us ub).last

/-- Blocks that stay. -/
def Same (B : Nat → Prop) (w w' : World) : Prop := ∀ b, B b → w'.heap[b]? = w.heap[b]?

/-- The tree, and blocks beside it that nobody touches. -/
def Hs (R : RepTy) (w0 w : World) (p q : Nat) (A : Arn) (tl : Int) (B : Nat → Prop) : Prop := ∃ F, R w p q F A tl ∧ An.Good A ∧ (∀ k, F k → w0.heap.size ≤ k) ∧ (∀ b, B b → ¬ F b ∧ b < w.heap.size) ∧ Below w0.heap.size w0 w

section
variable {Rep : World → Nat → (Nat → Prop) → Arn → Prop} {R : RepTy} {w0 w w' : World} {p q : Nat} {A A' : Arn} {tl tl' : Int} {B B' F : Nat → Prop}

theorem left_hs (h3 : ∀ k, F k → w0.heap.size ≤ k) (h4 : ∀ b, B b → ¬ F b ∧ b < w.heap.size) (h5 : Below w0.heap.size w0 w) (hl : LeftT R w w' p q F A' tl') (hg : An.Good A') : Hs R w0 w' p q A' tl' B ∧ Same B w w' := by
  obtain ⟨G, g1, g2, g3⟩ := hl
  refine ⟨⟨G, g1, hg, fun k hk => ?_, fun b hb => ⟨fun e => ?_, Nat.lt_of_lt_of_le (h4 b hb).2 g2.size⟩, h5.trans (g2.below (fun k hk hf => by have := h3 k hf; omega) h5.size)⟩, fun b hb => g2.block b (h4 b hb).2 (h4 b hb).1⟩
  · rcases g3 k hk with e | e
    · exact h3 k e
    · exact Nat.le_trans h5.size e
  · rcases g3 b e with e | e
    · exact (h4 b hb).1 e
    · have := (h4 b hb).2
      omega

theorem Hs.bel (h : Hs R w0 w p q A tl B) : Below w0.heap.size w0 w := by
  obtain ⟨F, _, _, _, _, h5⟩ := h
  exact h5

theorem Hs.good (h : Hs R w0 w p q A tl B) : An.Good A := by
  obtain ⟨F, _, h2, _⟩ := h
  exact h2

theorem Hs.more (K : ∀ q l, KeepC (R.ar q l)) (h : Hs R w0 w p q A tl B) (hb : Below w.heap.size w w') (hB : ∀ b, B' b → B b ∨ (w.heap.size ≤ b ∧ b < w'.heap.size)) : Hs R w0 w' p q A tl B' := by
  obtain ⟨F, h1, h2, h3, h4, h5⟩ := h
  refine ⟨F, (K q tl).below h1 hb, h2, h3, fun b hb' => ?_, h5.trans (hb.mono h5.size)⟩
  rcases hB b hb' with e | e
  · exact ⟨(h4 b e).1, Nat.lt_of_lt_of_le (h4 b e).2 hb.size⟩
  · exact ⟨fun hf => by have := (K q tl).lt h1 b hf; omega, e.2⟩

theorem Hs.turn (K : ∀ q l, KeepC (R.ar q l)) (h : Hs R w0 w p q A tl B) {b : Nat} (hb : B b) (hg : w.grownBy w' (some b)) (hB : ∀ c, B' c → B c ∨ (w.heap.size ≤ c ∧ c < w'.heap.size)) (hs : w.heap.size ≤ w'.heap.size) (hb0 : w0.heap.size ≤ b) : Hs R w0 w' p q A tl B' := by
  obtain ⟨F, h1, h2, h3, h4, h5⟩ := h
  have hk : Keep (fun j => j = b) w w' := (Keep.refl _ w).grown hg (fun j e => .inl (Option.some.inj e).symm)
  refine ⟨F, (K q tl).keep h1 hk (fun k hf e => (h4 b hb).1 (e ▸ hf)), h2, h3, fun c hc => ?_, h5.trans (hk.below (fun k hk' e => by omega) h5.size)⟩
  rcases hB c hc with e | e
  · exact ⟨(h4 c e).1, Nat.lt_of_lt_of_le (h4 c e).2 hs⟩
  · exact ⟨fun hf => by have := (K q tl).lt h1 c hf; omega, e.2⟩

theorem Hs.turnO (K : ∀ q l, KeepC (R.ar q l)) (h : Hs R w0 w p q A tl B) {row : Option Nat} (hg : w.grownBy w' row) (hr : ∀ b, row = some b → B b ∧ w0.heap.size ≤ b) (hB : ∀ c, B' c → B c ∨ (w.heap.size ≤ c ∧ c < w'.heap.size)) : Hs R w0 w' p q A tl B' := by
  obtain ⟨F, h1, h2, h3, h4, h5⟩ := h
  have hk : Keep (fun j => row = some j) w w' := (Keep.refl _ w).grown hg (fun j e => .inl e)
  refine ⟨F, (K q tl).keep h1 hk (fun k hf e => (h4 k (hr k e).1).1 hf), h2, h3, fun c hc => ?_, h5.trans (hk.below (fun k hk' e => by have := (hr k e).2; omega) h5.size)⟩
  rcases hB c hc with e | e
  · exact ⟨(h4 c e).1, Nat.lt_of_lt_of_le (h4 c e).2 hk.size⟩
  · exact ⟨fun hf => by have := (K q tl).lt h1 c hf; omega, e.2⟩

theorem Hs.take (C : HungC Rep R) (h : Hs R w0 w p q A tl B) :
    Calls Try.prog 19 #[ptr p] w fun e w' => e = .returned (.tuple #[nun A.take.2.1, errE A.take.1]) ∧ Hid (Hs R w0 w' p q A.take.2.2 tl B ∧ Same B w w') := by
  obtain ⟨F, h1, h2, h3, h4, h5⟩ := h
  refine (C.take q tl w p F A h1 h2).mono ?_
  rintro e w' ⟨rfl, hl⟩
  exact ⟨rfl, left_hs h3 h4 h5 hl h2.take⟩

theorem Hs.put (C : HungC Rep R) (h : Hs R w0 w p q A tl B) (hw : A.wr ≤ 1000) (k : Nat) (hk : k < 32) (x : Slt) :
    Calls Try.prog 20 #[ptr p, nun k, .agg x.cells.toArray] w fun e w' => e = .returned .nilIface ∧ Hid (Hs R w0 w' p q ⟨A.sl.set k x, A.fr, A.wr + 1⟩ tl B ∧ Same B w w') := by
  obtain ⟨F, h1, h2, h3, h4, h5⟩ := h
  have := C.put q tl w p F A k x h1 h2 (by omega) ⟨by omega, by omega⟩
  rw [show A.put (k : Int) x = (0, ⟨A.sl.set k x, A.fr, A.wr + 1⟩) by unfold Arn.put; rw [if_pos (by omega)]; rfl] at this
  refine this.mono ?_
  rintro e w' ⟨rfl, hl⟩
  exact ⟨rfl, left_hs h3 h4 h5 hl ⟨by rw [List.length_set]; exact h2.len, h2.nd, h2.lt⟩⟩

theorem Hs.add (C : HungC Rep R) (h : Hs R w0 w p q A tl B) (hw : A.wr ≤ 1000) (i us ub : Int) (hi : I64 i) (hus : I64 us) (hub : I64 ub) {S' : List Slt} {tl' : Int} (hS : S'.length = 32) (he : Tr.addT A.sl tl i us ub = ⟨0, -1, S', tl'⟩) :
    Calls Try.prog 21 #[ptr q, nu i, Tr.lkU us ub] w fun e w' => e = .returned .nilIface ∧ Hid (∃ n, n ≤ 8 ∧ Hs R w0 w' p q ⟨S', A.fr, A.wr + n⟩ tl' B ∧ Same B w w') := by
  obtain ⟨F, h1, h2, h3, h4, h5⟩ := h
  have := C.add w p q F A tl i us ub h1 h2 (by omega) hi hus hub
  rw [he] at this
  refine this.mono ?_
  rintro e w' ⟨rfl, n, hn, _, hl⟩
  exact ⟨rfl, n, hn, left_hs h3 h4 h5 hl ⟨hS, h2.nd, h2.lt⟩⟩
end

/-- What becomes of the slots, one by one. -/
def hStep (st : List Slt × Int) (n : Nat) (p : Int) : List Slt × Int := ((Tr.addT (st.1.set n (slU n)) st.2 n (Tr.linkS p) (Tr.linkB p)).sl, (Tr.addT (st.1.set n (slU n)) st.2 n (Tr.linkS p) (Tr.linkB p)).last)

def hAll (up : List Int) : List Slt × Int := up.zipIdx.foldl (fun st x => hStep st x.2 x.1) (arn0.sl, -1)

theorem hAll_snoc (up : List Int) (p : Int) : hAll (up ++ [p]) = hStep (hAll up) up.length p := by
  unfold hAll
  rw [List.zipIdx_append, List.foldl_append]
  simp

/-- Amid hung. -/
def Hu (R : RepTy) (w0 w : World) (p q : Nat) (up : List Int) (lv : Value) : Prop := ∃ (S : List Slt) (m : Nat) (tl : Int), Hs R w0 w p q ⟨S, (List.range 32).drop up.length, m⟩ tl (fun b => lv.ownBlock = some b) ∧ m ≤ 9 * up.length ∧ Tr.Hg S tl up.length (Tr.kidsU up (-1) (-1)) (fun j => Tr.kidsU up j (-1)) ∧ w.ownsRow w0.heap.size 3 1 lv up.length (up.map nu) ∧ Tr.Ups up ∧ up.length ≤ 32 ∧ hAll up = (S, tl)

theorem own_same {w w' : World} {base n : Nat} {v : Value} {xs : List Value} (h : w.ownsRow base 3 1 v n xs) (hs : Same (fun b => v.ownBlock = some b) w w') : w'.ownsRow base 3 1 v n xs := by
  refine ⟨h.1, ?_⟩
  rcases h.2 with e | ⟨b, cap, cur, rfl, hb, hc, rest⟩
  · exact .inl e
  · exact .inr ⟨b, cap, cur, rfl, hb, (hs b rfl).trans hc, rest⟩

theorem own_grownG {w w' : World} {base n r : Nat} {v : Value} {xs : List Value} (h : w.ownsRow base 3 1 v n xs) (hg : w.grownBy w' (some r)) (hn : v.ownBlock ≠ some r) : w'.ownsRow base 3 1 v n xs :=
  ((Keep.refl (fun k => k = r) w).grown hg (fun k e => .inl (Option.some.inj e).symm)).own h (fun k hk e => hn (by rw [hk, e]))

theorem drop_at (i : Nat) (hi : i < 32) : (List.range 32).drop i = i :: (List.range 32).drop (i + 1) := by
  rw [List.drop_eq_getElem_cons (by simpa using hi)]
  simp

theorem results_tmp4 {fn : Func} {t u v x : Tmp} (h : fn.results = #[.tmp t, .tmp u, .tmp v, .tmp x]) (tmps : Array Value) (P : Program) (w : World) : (results fn tmps).run P w = .ok (.tuple #[tmps.getD t undef, tmps.getD u undef, tmps.getD v undef, tmps.getD x undef]) w := by
  simp [results, h]

/-- The parents that are chosen. -/
def upP (l : List Int) (n : Nat) : List Int := (List.range n).map (fun i => l.getD i 0 % ((i : Int) + 1) - 1)

theorem upP_len (l : List Int) (n : Nat) : (upP l n).length = n := by simp [upP]

theorem upP_snoc (l : List Int) (n : Nat) : upP l (n + 1) = upP l n ++ [l.getD n 0 % ((n : Int) + 1) - 1] := by
  unfold upP
  rw [List.range_succ, List.map_append]
  rfl

theorem mod_up (x : Int) (n : Nat) : -1 ≤ x % ((n : Int) + 1) - 1 ∧ x % ((n : Int) + 1) - 1 < n := by
  have h1 := Int.emod_nonneg x (b := (n : Int) + 1) (by omega)
  have h2 := Int.emod_lt_of_pos x (b := (n : Int) + 1) (by omega)
  omega

@[reducible] def slUA (k : Nat) : Array Value := #[.bool true, .bool false, .int .i64 (-1), .int .i64 (-1), .int .i64 (-1), .int .i64 0, .int .i64 ((k : Int) + 1), .int .i64 0, .int .i64 0, .int .i64 0, .string ⟨#[]⟩, .string ⟨#[]⟩, .int .u64 0, .int .i64 0, .int .i64 0, .int .i64 0, .int .i64 0]

set_option maxRecDepth 100000 in
set_option maxHeartbeats 8000000 in
theorem hung_any {Rep : World → Nat → (Nat → Prop) → Arn → Prop} {R : RepTy} (CN : NewC Rep) (C : HungC Rep R) (v : Value) (l : List Int) (w : World) (hR : RdU w v l) (hI : ∀ x ∈ l, I64 x) :
    Calls Try.prog 5 #[v] w fun e w' => ∃ p q a c n, e = .returned (.tuple #[ptr p, ptr q, .slice a n c, .bool true]) ∧ Hid (n = min l.length 32 ∧ Hu R w w' p q (upP l n) (.slice a n c)) := by
  obtain ⟨i0, ji, hz0, hz1, hz2⟩ := info_parts info_int
  obtain ⟨av, cv, rfl, hc1, hc2, hcell⟩ := hR
  obtain ⟨N, hN⟩ : ∃ N, l.length = N := ⟨_, rfl⟩
  have HN := Hid.mk' hN
  rw [hN] at hc1 hcell ⊢
  unfold maxLen at hc2
  have hcI : (cv : Int) ≤ 9223372036854775807 := by omega
  have HCL : Hid (∀ n wx, n < N → Below w.heap.size w wx → ∃ g o, av = some ⟨g, o, none⟩ ∧ wx.cell? ⟨g, o + n, none⟩ = some (nu (l.getD n 0))) := fun n wx hn hb => by
    obtain ⟨g, o, e1, e2, e3⟩ := hcell (by omega)
    refine ⟨g, o, e1, (hb.cell (p := ⟨g, o + n, none⟩) e2).trans (e3 n _ ?_)⟩
    rw [List.getD_eq_getElem?_getD, List.getElem?_eq_getElem (by omega)]
    rfl
  have HII : Hid (∀ n, n < N → I64 (l.getD n 0)) := fun n hn => by
    rw [List.getD_eq_getElem?_getD, List.getElem?_eq_getElem (by omega)]
    exact hI _ (List.getElem_mem _)
  have c1 := Hid.mk' (CN w)
  have HC := Hid.mk' C
  have cN : Hid (∀ wx p F, Rep wx p F arn0 → (∀ k, F k → w.heap.size ≤ k) → Below w.heap.size w wx → Calls Try.prog 18 #[ptr p] wx fun e w' => ∃ q, e = .returned (ptr q) ∧ Hid (Hu R w w' p q (upP l 0) (.slice none 0 0))) := fun wx p F h1 h2 h3 => by
    refine (C.new wx p F arn0 h1 good0).mono ?_
    rintro e w' ⟨q, G, rfl, g1, g2, g3⟩
    refine ⟨q, rfl, arn0.sl, 0, -1, ⟨G, g1, good0, fun k hk => (g2 k hk).elim (h2 k) (fun e => Nat.le_trans h3.size e), fun b hb => by simp [Value.ownBlock] at hb, h3.trans (g3.mono h3.size)⟩, by simp, hung_start, World.ownsRow_nil _ _ _ _, ?_, by simp [upP], rfl⟩
    intro k hk
    simp [upP] at hk
  clear hcell hI hN CN C
  go_enter Try.func5, Try.ntmps5
  go_wp2_with fail
  refine c1.out.mono ?_
  rintro e w1 ⟨p, F, rfl, hr1, hf1, hb1⟩
  have c2 := Hid.mk' (cN.out w1 p F hr1 hf1 hb1)
  clear hr1 hf1 hb1 c1 cN
  go_wp2_with fail
  refine c2.out.mono ?_
  rintro e w2 ⟨q, rfl, HQ2⟩
  clear c2
  go_wp2_with fail
  go_loopw [8, 9] (fun lv iv wr => ∃ (i : Nat) (a : Option Addr) (c : Nat), i ≤ N ∧ i ≤ 32 ∧ iv = nun i ∧ lv = .slice a i c ∧ Hid (Hu R w wr p q (upP l i) (.slice a i c))) (fun _ iv _ => N - (intOf iv).toNat)
  case atStart => exact ⟨0, none, 0, Nat.zero_le _, by omega, rfl, rfl, HQ2⟩
  case round =>
    clear HQ2
    obtain ⟨i, a, c, hi, hi32, rfl, rfl, HQ⟩ := hrel
    by_cases hlt : i < N
    · have hiI : (i : Int) < (N : Int) := by omega
      by_cases h32 : i < 32
      · have h32I : (i : Int) < 32 := by omega
        have hi0 : (0 : Int) ≤ (i : Int) := by omega
        obtain ⟨S, m, tl, hS, hm, hg, ho, hu, hul, hhA⟩ := HQ.out
        obtain ⟨x, hx⟩ : ∃ x, l.getD i 0 = x := ⟨_, rfl⟩
        obtain ⟨y, hy⟩ : ∃ y, x % ((i : Int) + 1) = y := ⟨_, rfl⟩
        have hyb := mod_up x i
        rw [hy] at hyb
        have hup : upP l (i + 1) = upP l i ++ [y - 1] := by rw [upP_snoc, hx, hy]
        have hln := upP_len l i
        have hg' := hg
        rw [hln] at hS hm ho hul
        obtain ⟨S2, tl2, e1, e2⟩ := hung_step hg' hu (by rw [hln]; exact h32) (p := y - 1) (by rw [hln]; exact hyb)
        rw [hln] at e1
        rw [← hup, upP_len] at e2
        have hhA2 : hAll (upP l (i + 1)) = (S2, tl2) := by
          rw [hup, hAll_snoc, hhA, hStep, hln, e1]
        have hups : Tr.Ups (upP l (i + 1)) := by
          rw [hup]
          exact hu.snoc (by rw [hln]; exact hyb)
        rw [drop_at i h32] at hS
        have cT := Hid.mk' (hS.take HC.out)
        rw [show (⟨S, i :: (List.range 32).drop (i + 1), m⟩ : Arn).take = (0, i, ⟨S, (List.range 32).drop (i + 1), m⟩) from rfl, show errE 0 = .nilIface from rfl] at cT
        have cU : Hid (∀ wx, Hs R w wx p q ⟨S, (List.range 32).drop (i + 1), m⟩ tl (fun b => Value.ownBlock (.slice a i c) = some b) → Calls Try.prog 20 #[ptr p, nun i, .agg (slUA i)] wx fun e w' => e = .returned .nilIface ∧ Hid (Hs R w w' p q ⟨S.set i (slU i), (List.range 32).drop (i + 1), m + 1⟩ tl (fun b => Value.ownBlock (.slice a i c) = some b) ∧ Same (fun b => Value.ownBlock (.slice a i c) = some b) wx w')) := fun wx h => h.put HC.out (by show m ≤ 1000; omega) i h32 (slU i)
        have cA : Hid (∀ wx B, Hs R w wx p q ⟨S.set i (slU i), (List.range 32).drop (i + 1), m + 1⟩ tl B → Calls Try.prog 21 #[ptr q, nun i, Tr.lkU (Tr.linkS (y - 1)) (Tr.linkB (y - 1))] wx fun e w' => e = .returned .nilIface ∧ Hid (∃ n, n ≤ 8 ∧ Hs R w w' p q ⟨S2, (List.range 32).drop (i + 1), m + 1 + n⟩ tl2 B ∧ Same B wx w')) := fun wx B h => by
          have hlk : I64 (Tr.linkS (y - 1)) ∧ I64 (Tr.linkB (y - 1)) := by
            unfold Tr.linkS Tr.linkB
            split <;> exact ⟨⟨by omega, by omega⟩, ⟨by omega, by omega⟩⟩
          exact h.add HC.out (by show m + 1 ≤ 1000; omega) i _ _ ⟨by omega, by omega⟩ hlk.1 hlk.2 e2.len e1
        have cK : Hid (∀ wx, Calls Try.prog 7 #[nu x, nu ((i : Int) + 1)] wx fun e w' => e = .returned (nu y) ∧ w' = wx) := fun wx => by
          have := pickG x (i + 1) wx (by omega) (by omega) (by rw [← hx]; exact HII.out i hlt)
          rw [show ((i + 1 : Nat) : Int) = (i : Int) + 1 by omega, hy] at this
          exact this
        have HFIN : Hid (∀ wx a' c' n, n ≤ 8 → Hs R w wx p q ⟨S2, (List.range 32).drop (i + 1), m + 1 + n⟩ tl2 (fun b => Value.ownBlock (.slice a' (i + 1) c') = some b) → wx.ownsRow w.heap.size 3 1 (.slice a' (i + 1) c') (i + 1) ((upP l i).map nu ++ [nu (y - 1)]) → Hu R w wx p q (upP l (i + 1)) (.slice a' (i + 1) c')) := fun wx a' c' n hn h1 h2 => by
          refine ⟨S2, m + 1 + n, tl2, by rw [upP_len]; exact h1, by rw [upP_len]; omega, by rw [upP_len]; exact e2, ?_, hups, by rw [upP_len]; omega, hhA2⟩
          rw [upP_len, hup, List.map_append]
          exact h2
        have HO := Hid.mk' ho
        have HBW := Hid.mk' hS.bel
        have hOB : ∀ b, Value.ownBlock (.slice a i c) = some b → w.heap.size ≤ b := fun b hb => (ho.lt b hb).1
        have HOB := Hid.mk' hOB
        have hii : (!((i : Int) == (i : Int))) = false := by simp
        have hcel : ∀ wx, Below w.heap.size w wx → ∃ g o, av = some ⟨g, o, none⟩ ∧ wx.cell? ⟨g, o + i, none⟩ = some (nu x) := fun wx hb => by
          have := HCL.out i wx hlt hb
          rw [hx] at this
          exact this
        obtain ⟨gv, ov, rfl, _⟩ := hcel wr HBW.out
        have HCX : Hid (∀ wx, Below w.heap.size w wx → wx.cell? ⟨gv, ov + i, none⟩ = some (nu x)) := fun wx hb => by
          obtain ⟨g', o', e', h'⟩ := hcel wx hb
          simp only [Option.some.injEq, Addr.mk.injEq, and_true] at e'
          obtain ⟨rfl, rfl⟩ := e'
          exact h'
        clear hS hm hg ho hu hul hhA hhA2 hg' e1 e2 hups hx hy hup hln HQ hcel HCL HII hOB
        go_wp2_with fail
        refine cT.out.mono ?_
        rintro e w3 ⟨rfl, hQ3⟩
        have c3 := Hid.mk' (cU.out w3 hQ3.out.1)
        have HO3 := Hid.mk' (own_same HO.out hQ3.out.2)
        clear cT cU hQ3 HO
        go_wp2_with fail
        refine c3.out.mono ?_
        rintro e w4 ⟨rfl, hQ4⟩
        have HO4 := Hid.mk' (own_same HO3.out hQ4.out.2)
        have HH4 := Hid.mk' hQ4.out.1
        have q4 := HCX.out w4 HH4.out.bel
        clear c3 hQ4 HO3
        by_cases hy1 : 1 ≤ y
        · have hy0 : 0 ≤ y - 1 := by omega
          rw [show Tr.linkS (y - 1) = y - 1 from if_pos hy0, show Tr.linkB (y - 1) = y from (if_pos hy0).trans (by omega)] at cA
          have HL5 := Hid.mk' (Tr.lnl_new w4 0 0)
          have HH5 : Hid (Hs R w (w4.alloc (.cells #[nu 0, nu 0] 43)) p q ⟨S.set i (slU i), (List.range 32).drop (i + 1), m + 1⟩ tl (fun b => Value.ownBlock (.slice a i c) = some b ∨ b = w4.heap.size)) := HH4.out.more HC.out.keep ((Below.refl _ _).alloc (Nat.le_refl _) _) (fun b hb => hb.elim .inl (fun e => .inr ⟨by omega, by rw [World.size_alloc]; omega⟩))
          have HO5 := Hid.mk' (HO4.out.alloc (.cells #[nu 0, nu 0] 43))
          have HBZ : Hid (w.heap.size ≤ w4.heap.size) := HH4.out.bel.size
          have HNE : Hid (Value.ownBlock (.slice a i c) ≠ some w4.heap.size) := fun e => by have := (HO4.out.lt _ e).2; omega
          go_upto_region 16 with (first | (go_at_call 7; refine (cK.out _).mono ?_; rintro e w9 ⟨rfl, hw9⟩; subst w9) | fail)
          clear cK q4 HO4 HH4
          generalize w4.alloc (.cells #[nu 0, nu 0] 43) = w5 at *
          generalize w4.heap.size = b5 at *
          go_upto_region 18 with (first | (refine Tr.wpList_store_lnl rfl _ _ rfl b5 rfl (y - 1) y rfl 0 0 HL5.out ?_; intro w6 hl6 hg6 hs6; have HL6 := Hid.mk' hl6; have HH6 : Hid (Hs R w w6 p q ⟨S.set i (slU i), (List.range 32).drop (i + 1), m + 1⟩ tl (fun b => Value.ownBlock (.slice a i c) = some b ∨ b = b5)) := HH5.out.turn HC.out.keep (.inr rfl) hg6 (fun b hb => .inl hb) (by omega) HBZ.out; have HO6 := Hid.mk' (own_grownG HO5.out hg6 HNE.out); clear hl6 hg6 hs6) | fail)
          go_wp2_with (first | (refine Tr.wpList_load_lnl rfl _ rfl b5 0 rfl (y - 1) y HL6.out.range ?_) | fail)
          refine (cA.out _ _ HH6.out).mono ?_
          rintro e w7 ⟨rfl, hQ7⟩
          obtain ⟨n8, hn8, hh7, hs7⟩ := hQ7.out
          have HO7 := Hid.mk' (own_same HO6.out (fun b hb => hs7 b (.inl hb)))
          have HH7 : Hid (Hs R w (w7.alloc (.cells #[nu (y - 1)] 3)) p q ⟨S2, (List.range 32).drop (i + 1), m + 1 + n8⟩ tl2 (fun b => Value.ownBlock (.slice a i c) = some b ∨ b = b5)) := hh7.more HC.out.keep ((Below.refl _ _).alloc (Nat.le_refl _) _) (fun b hb => .inl hb)
          have hb7 := hh7.bel.size
          clear hQ7 hh7 hs7 cA
          go_wp2_with (first | (at_builtin; refine wpList_append_own_at (P := Try.prog) _ rfl _ _ 22 rfl w.heap.size 3 i0 (.int .i64 0) 1 8 Try.underlying22 ji hz0 hz1 hz2 rfl (by decide) (.slice a i c) i ((upP l i).map nu) rfl (HO7.out.alloc _) ⟨w7.heap.size, 0, none⟩ 1 1 [nu (y - 1)] rfl rfl (cell_one_new _ _ _) (by simp [Value.oneCell']) (by unfold maxLen; omega) (by omega) (by simp; omega) ?_; intro v8 w8 ho8 hg8 _ hat8; have HH8 : Hid (Hs R w w8 p q ⟨S2, (List.range 32).drop (i + 1), m + 1 + n8⟩ tl2 (fun b => v8.ownBlock = some b)) := HH7.out.turnO HC.out.keep hg8 (fun b hb => ⟨.inl hb, HOB.out b hb⟩) (fun b hb => by rcases hat8 with e | e; exact .inl (.inl (by rw [← e]; exact hb)); exact .inr ⟨Nat.le_of_eq (Option.some.inj (e.symm.trans hb)), (ho8.lt b hb).2⟩); obtain ⟨g8, c8, rfl⟩ := ownsRow_succ ho8; have HF8 := Hid.mk' (HFIN.out w8 _ c8 n8 hn8 HH8.out ho8); clear ho8 hg8 hat8) | fail)
          go_roundw
          case rel => exact ⟨i + 1, _, c8, by omega, by omega, by go_num, rfl, HF8⟩
          case measure => simp [intOf]; omega
        · have hy0 : ¬ 0 ≤ y - 1 := by omega
          rw [show Tr.linkS (y - 1) = 0 from if_neg hy0, show Tr.linkB (y - 1) = 0 from if_neg hy0] at cA
          have HL5 := Hid.mk' (Tr.lnl_new w4 0 0)
          have HH5 : Hid (Hs R w (w4.alloc (.cells #[nu 0, nu 0] 43)) p q ⟨S.set i (slU i), (List.range 32).drop (i + 1), m + 1⟩ tl (fun b => Value.ownBlock (.slice a i c) = some b ∨ b = w4.heap.size)) := HH4.out.more HC.out.keep ((Below.refl _ _).alloc (Nat.le_refl _) _) (fun b hb => hb.elim .inl (fun e => .inr ⟨by omega, by rw [World.size_alloc]; omega⟩))
          have HO5 := Hid.mk' (HO4.out.alloc (.cells #[nu 0, nu 0] 43))
          have HBZ : Hid (w.heap.size ≤ w4.heap.size) := HH4.out.bel.size
          have HNE : Hid (Value.ownBlock (.slice a i c) ≠ some w4.heap.size) := fun e => by have := (HO4.out.lt _ e).2; omega
          go_upto_region 16 with (first | (go_at_call 7; refine (cK.out _).mono ?_; rintro e w9 ⟨rfl, hw9⟩; subst w9) | fail)
          clear cK q4 HO4 HH4
          generalize w4.alloc (.cells #[nu 0, nu 0] 43) = w5 at *
          generalize w4.heap.size = b5 at *
          go_wp2_with (first | (refine Tr.wpList_load_lnl rfl _ rfl b5 0 rfl 0 0 HL5.out.range ?_) | fail)
          refine (cA.out _ _ HH5.out).mono ?_
          rintro e w7 ⟨rfl, hQ7⟩
          obtain ⟨n8, hn8, hh7, hs7⟩ := hQ7.out
          have HO7 := Hid.mk' (own_same HO5.out (fun b hb => hs7 b (.inl hb)))
          have HH7 : Hid (Hs R w (w7.alloc (.cells #[nu (y - 1)] 3)) p q ⟨S2, (List.range 32).drop (i + 1), m + 1 + n8⟩ tl2 (fun b => Value.ownBlock (.slice a i c) = some b ∨ b = b5)) := hh7.more HC.out.keep ((Below.refl _ _).alloc (Nat.le_refl _) _) (fun b hb => .inl hb)
          have hb7 := hh7.bel.size
          clear hQ7 hh7 hs7 cA
          go_wp2_with (first | (at_builtin; refine wpList_append_own_at (P := Try.prog) _ rfl _ _ 22 rfl w.heap.size 3 i0 (.int .i64 0) 1 8 Try.underlying22 ji hz0 hz1 hz2 rfl (by decide) (.slice a i c) i ((upP l i).map nu) rfl (HO7.out.alloc _) ⟨w7.heap.size, 0, none⟩ 1 1 [nu (y - 1)] rfl rfl (cell_one_new _ _ _) (by simp [Value.oneCell']) (by unfold maxLen; omega) (by omega) (by simp; omega) ?_; intro v8 w8 ho8 hg8 _ hat8; have HH8 : Hid (Hs R w w8 p q ⟨S2, (List.range 32).drop (i + 1), m + 1 + n8⟩ tl2 (fun b => v8.ownBlock = some b)) := HH7.out.turnO HC.out.keep hg8 (fun b hb => ⟨.inl hb, HOB.out b hb⟩) (fun b hb => by rcases hat8 with e | e; exact .inl (.inl (by rw [← e]; exact hb)); exact .inr ⟨Nat.le_of_eq (Option.some.inj (e.symm.trans hb)), (ho8.lt b hb).2⟩); obtain ⟨g8, c8, rfl⟩ := ownsRow_succ ho8; have HF8 := Hid.mk' (HFIN.out w8 _ c8 n8 hn8 HH8.out ho8); clear ho8 hg8 hat8) | fail)
          go_roundw
          case rel => exact ⟨i + 1, _, c8, by omega, by omega, by go_num, rfl, HF8⟩
          case measure => simp [intOf]; omega
      · have h32I : ¬ (i : Int) < 32 := by omega
        have HE : Hid (i = min N 32) := by show _ = _; omega
        go_wp2
        (try simp only [Exit.inBlock, Exit.then])
        refine bodyPost_ret (results_tmp4 rfl _ _ _) rfl ?_
        exact ⟨_, _, _, _, _, rfl, HE.out, HQ.out⟩
    · have hiI : ¬ (i : Int) < (N : Int) := by omega
      have HE : Hid (i = min N 32) := by show _ = _; omega
      go_wp2
      (try simp only [Exit.inBlock, Exit.then])
      refine bodyPost_ret (results_tmp4 rfl _ _ _) rfl ?_
      exact ⟨_, _, _, _, _, rfl, HE.out, HQ.out⟩
end Sw
end Go.Proofs.Ythabnombfbehkaa
