/- What was given back last is taken first, bare: out of what the program's calls must answer. -/
import Derived.Test.YtalpbciceogjlaaArnM
namespace Go.Proofs.Ytalpbciceogjlaa
set_option linter.ambiguousOpen false
open Go.RowKit
namespace An
open Ft Lv
set_option linter.unusedSimpArgs false
set_option linter.unusedVariables false

/-- The bare slot, as a law builds it. -/
@[reducible] def bareA : Array Value := #[.bool false, .bool false, .int .i64 (-1), .int .i64 (-1), .int .i64 (-1), .int .i64 0, .int .i64 0, .int .i64 0, .int .i64 0, .int .i64 0, .string ⟨#[]⟩, .string ⟨#[]⟩, .int .u64 0, .int .i64 0, .int .i64 0, .int .i64 0, .int .i64 0]

theorem neq_bare (w : World) : (binOp .neq 34 (.agg bare.cells.toArray) (.agg bareA)).run Try.prog w = .ok (.bool false) w := neq_self bare w

/-- Ints that came in. -/
def RdZ (w : World) (v : Value) (l : List Int) : Prop :=
  ∃ a cap, v = .slice a l.length cap ∧ l.length ≤ cap ∧ cap ≤ maxLen ∧ (0 < l.length → ∃ g o, a = some ⟨g, o, none⟩ ∧ g < w.heap.size ∧ ∀ k i, l[k]? = some i → w.cell? ⟨g, o + k, none⟩ = some (nu i))

section
variable {Rep : World → Nat → (Nat → Prop) → Arn → Prop} {w0 w w' : World} {p X : Nat} {F : Nat → Prop} {A A' : Arn} {s : Slt} {lv lv' : Value} {bk bk' : List Nat}

/-- The arena; a slot in a variable, and the law's own list, which lie apart. -/
structure La (Rep : World → Nat → (Nat → Prop) → Arn → Prop) (w0 w : World) (p X : Nat) (F : Nat → Prop) (A : Arn) (s : Slt) (lv : Value) (bk : List Nat) : Prop where
  rep : Rep w p F A
  good : Good A
  fl : ∀ k, F k → w0.heap.size ≤ k
  bel : Below w0.heap.size w0 w
  lone : Lone w X s
  row : w.ownsRow w0.heap.size 3 1 lv bk.length (bk.map nun)
  offX : ¬ F X
  offR : ∀ k, lv.ownBlock = some k → ¬ F k
  xw : w0.heap.size ≤ X

theorem La.turn (h : La Rep w0 w p X F A s lv bk) (hl : Left Rep w w' p F A') (hg : Good A') : ∃ F', La Rep w0 w' p X F' A' s lv bk := by
  obtain ⟨F', h1, h2, h3⟩ := hl
  have lX := (Array.getElem?_eq_some_iff.1 h.lone).1
  refine ⟨F', h1, hg, fun k hk => (h3 k hk).elim (h.fl k) (fun e => Nat.le_trans h.bel.size e), h.bel.trans (h2.below (fun k hk hc => by have := h.fl k hc; omega) h.bel.size), (h2.block X lX h.offX).trans h.lone, h2.own h.row h.offR, fun e => ?_, fun k hk e => ?_, h.xw⟩
  · rcases h3 X e with h4 | h4
    · exact h.offX h4
    · omega
  · rcases h3 k e with h4 | h4
    · exact h.offR k hk h4
    · have := (h.row.lt k hk).2
      omega

theorem La.below (H : KeepC Rep) (h : La Rep w0 w p X F A s lv bk) (hb : Below w.heap.size w w') : La Rep w0 w' p X F A s lv bk :=
  ⟨H.below h.rep hb, h.good, h.fl, h.bel.trans (hb.mono h.bel.size), h.lone.below hb, (Keep.of_below (F := fun _ => False) hb).own h.row (fun _ _ h => h), h.offX, h.offR, h.xw⟩

/-- The law's list has grown. -/
theorem La.grown (H : KeepC Rep) (h : La Rep w0 w p X F A s lv bk) {g cap : Nat} (ho : w'.ownsRow w0.heap.size 3 1 (.slice (some ⟨g, 0, none⟩) bk'.length cap) bk'.length (bk'.map nun)) (hg : w.grownBy w' lv.ownBlock) (hat : lv.ownBlock = some g ∨ g = w.heap.size) : La Rep w0 w' p X F A s (.slice (some ⟨g, 0, none⟩) bk'.length cap) bk' := by
  have hK : Keep (fun j => lv.ownBlock = some j) w w' := ⟨hg.os, hg.tape, hg.output, hg.size, fun k hk hn => hg.block k hk (fun e => hn e.symm)⟩
  refine ⟨H.keep h.rep hK (fun k hk e => h.offR k e hk), h.good, h.fl, h.bel.trans (hK.below (fun k hk e => by have := (h.row.lt k e).1; omega) h.bel.size), (hK.block X (Array.getElem?_eq_some_iff.1 h.lone).1 (fun e => ?_)).trans h.lone, ho, h.offX, fun k hk e => ?_, h.xw⟩
  · obtain ⟨c, hc, _⟩ := own_cellsT h.row e
    have := h.lone
    unfold Lone at this
    rw [this] at hc
    simp at hc
  · obtain rfl : g = k := by simpa [Value.ownBlock] using hk
    rcases hat with h1 | h1
    · exact h.offR g h1 e
    · have := H.lt h.rep g e
      omega
end

theorem drop_range (i : Nat) (h : i < 32) : (List.range 32).drop i = i :: (List.range 32).drop (i + 1) := by
  rw [List.drop_eq_getElem_cons (by simpa using h)]
  simp

set_option maxRecDepth 100000 in
set_option maxHeartbeats 8000000 in
theorem arenaLast_yes {Rep : World → Nat → (Nat → Prop) → Arn → Prop} (H : KeepC Rep) (CN : NewC Rep) (CG : GetC Rep) (CP : PutC Rep) (CT : TakeC Rep) (CX : FreeC Rep) (CF : FreesC Rep) (CW : WritesC Rep) (v : Value) (l : List Int) (s : Slt) (w : World) (hR : RdZ w v l) (hl : ∀ x ∈ l, -9223372036854775808 ≤ x ∧ x ≤ 9223372036854775807) :
    Calls Try.prog 4 #[v, s.v] w fun e w' => e = .returned (.bool true) ∧ Below w.heap.size w w' := by
  obtain ⟨i0, ji, hz0, hz1, hz2⟩ := info_parts info_int
  obtain ⟨av, cv, rfl, hc1, hc2, hcell⟩ := hR
  obtain ⟨N, hN⟩ : ∃ N, l.length = N := ⟨_, rfl⟩
  have HN := Hid.mk' hN
  have HC := Hid.mk' hcell
  have HLI := Hid.mk' hl
  rw [hN] at hc1 ⊢
  unfold maxLen at hc2
  have hz := lone_new w s
  have hB0 : Below w.heap.size w (w.alloc (.cells s.cells.toArray 34)) := (Below.refl _ _).alloc (Nat.le_refl _) _
  obtain ⟨W0, hW0⟩ : ∃ W0, w.alloc (.cells s.cells.toArray 34) = W0 := ⟨_, rfl⟩
  rw [hW0] at hz hB0
  have HW0 := Hid.mk' hW0
  have HZ := Hid.mk' hz
  have HB0 := Hid.mk' hB0
  have c0 : Hid (∀ wx, _) := fun wx => works_any CN CT CX CF wx
  have c1 : Hid (∀ wx, _) := fun wx => CN wx
  have HH := Hid.mk' H
  have cG : Hid (∀ wx p F A i, Rep wx p F A → Good A → _ → _) := fun wx p F A i h1 h2 h3 => CG wx p F A i h1 h2 h3
  have cP : Hid (∀ wx p F A i s, Rep wx p F A → Good A → A.wr ≤ 1000000000 → _ → _) := fun wx p F A i s h1 h2 h3 h4 => CP wx p F A i s h1 h2 h3 h4
  have cT : Hid (∀ wx p F A, Rep wx p F A → Good A → _) := fun wx p F A h1 h2 => CT wx p F A h1 h2
  have cX : Hid (∀ wx p F A i, Rep wx p F A → Good A → A.wr ≤ 1000000000 → _ → _) := fun wx p F A i h1 h2 h3 h4 => CX wx p F A i h1 h2 h3 h4
  have cW : Hid (∀ wx p F A, Rep wx p F A → A.wr ≤ 1000000000 → _) := fun wx p F A h1 h2 => CW wx p F A h1 h2
  clear hcell hl hN H CN CG CP CT CX CF CW hW0 hz hB0
  go_enter Try.func4, Try.ntmps4
  go_wp2_with fail
  rw [HW0.out]
  refine (c0.out _).mono ?_
  rintro e w1 ⟨rfl, hb1⟩
  have HB1 : Hid (Below w.heap.size w w1) := HB0.out.trans (hb1.mono HB0.out.size)
  have HZ1 := Hid.mk' (HZ.out.below hb1)
  clear hb1 HZ HB0 HW0 c0
  go_wp2_with fail
  refine (c1.out _).mono ?_
  rintro e w2 ⟨p, F, rfl, hr2, hf2, hb2⟩
  have HLA : Hid (La Rep w w2 p w.heap.size F arn0 s (.slice none 0 0) []) := by
    have hx := (Array.getElem?_eq_some_iff.1 HZ1.out).1
    refine ⟨hr2, good0, fun k hk => Nat.le_trans HB1.out.size (hf2 k hk), HB1.out.trans (hb2.mono HB1.out.size), HZ1.out.below hb2, World.ownsRow_nil _ _ _ _, fun e => ?_, fun k hk => by simp [Value.ownBlock] at hk, Nat.le_refl _⟩
    have := hf2 _ e
    omega
  clear hr2 hf2 hb2 HZ1 HB1 c1
  go_wp2_with fail
  go_loopw [6, 7, 8] (fun iv _ _ wr => ∃ (i : Nat), i ≤ 32 ∧ iv = nun i ∧ Hid (∃ F A, A.wr = i ∧ A.fr = (List.range 32).drop i ∧ La Rep w wr p w.heap.size F A s (.slice none 0 0) [])) (fun iv _ _ _ => 32 - (intOf iv).toNat)
  case atStart => exact ⟨0, Nat.zero_le _, rfl, F, arn0, rfl, rfl, HLA.out⟩
  case round =>
    clear HLA
    obtain ⟨i, hi, rfl, hq⟩ := hrel
    obtain ⟨F5, A5, ha5, hf5, hla⟩ := hq.out
    by_cases hlt : i < 32
    · have hiI : (i : Int) < 32 := by omega
      have hfr : A5.fr = i :: (List.range 32).drop (i + 1) := by rw [hf5, drop_range i hlt]
      have C1 : Hid (Calls Try.prog 10 #[ptr p] wr fun e w' => e = .returned (.tuple #[nun i, .nilIface]) ∧ Hid (∃ F A, A.wr = i ∧ A.fr = (List.range 32).drop (i + 1) ∧ La Rep w w' p w.heap.size F A s (.slice none 0 0) [])) := by
        have := cT.out wr p F5 A5 hla.rep hla.good
        have hg := hla.good.take
        rw [take_fr_cons hfr] at this hg
        rw [show errE 0 = .nilIface from rfl] at this
        refine this.mono ?_
        rintro e w' ⟨rfl, hl⟩
        obtain ⟨F', h'⟩ := hla.turn hl hg
        exact ⟨rfl, F', ⟨A5.sl, (List.range 32).drop (i + 1), A5.wr⟩, ha5, rfl, h'⟩
      have C2 : Hid (∀ wx, Hid (∃ F A, A.wr = i ∧ A.fr = (List.range 32).drop (i + 1) ∧ La Rep w wx p w.heap.size F A s (.slice none 0 0) []) → Lone wx w.heap.size s ∧ Calls Try.prog 9 #[ptr p, nun i, .agg s.cells.toArray] wx fun e w' => e = .returned .nilIface ∧ Hid (∃ F A, A.wr = i + 1 ∧ A.fr = (List.range 32).drop (i + 1) ∧ La Rep w w' p w.heap.size F A s (.slice none 0 0) [])) := fun wx hq => by
        obtain ⟨F1, A1, h1, h2, h3⟩ := hq.out
        refine ⟨h3.lone, ?_⟩
        have := cP.out wx p F1 A1 (i : Int) s h3.rep h3.good (by omega) (by omega)
        rw [put_in hlt, show errE 0 = .nilIface from rfl] at this
        refine this.mono ?_
        rintro e w' ⟨rfl, hl⟩
        obtain ⟨F', h'⟩ := h3.turn hl (h3.good.put _ _)
        refine ⟨rfl, F', _, ?_, by rw [put_fr]; exact h2, h'⟩
        unfold Arn.put
        rw [if_pos (there_nat hlt)]
        simp only
        omega
      clear hla hq hf5 hfr ha5 cT cP cX cG cW
      go_wp2_with fail
      refine C1.out.mono ?_
      rintro e w3 ⟨rfl, hq3⟩
      obtain ⟨hl3, hc3⟩ := C2.out w3 hq3
      have HL3 := Hid.mk' hl3
      have HC3 := Hid.mk' hc3
      clear C1 C2 hq3 hl3 hc3
      go_wp2_with (first | (refine wpList_load_when (by rfl) _ rfl w.heap.size rfl s HL3.out ?_) | fail)
      refine HC3.out.mono ?_
      rintro e w4 ⟨rfl, hq4⟩
      clear HC3 HL3
      go_wp2
      go_roundw
      case rel => exact ⟨i + 1, by omega, by go_num, hq4⟩
      case measure => simp [intOf]; omega
    · obtain rfl : i = 32 := by omega
      have HQ0 : Hid (∃ F A, A.wr = 32 + 0 ∧ A.fr = ([] : List Nat).reverse ∧ (∀ k ∈ ([] : List Nat), A.sl[k]? = some bare) ∧ La Rep w wr p w.heap.size F A s (.slice none 0 0) []) := ⟨F5, A5, ha5, by rw [hf5]; rfl, by simp, hla⟩
      rename World => wq
      clear hla hq hf5 ha5
      go_wp2_with fail
      go_loopw [9, 10, 11] (fun lv iv _ wr => ∃ (i m : Nat) (bk : List Nat) (al : Option Addr) (cl : Nat), i ≤ N ∧ i ≤ 100 ∧ m ≤ 32 ∧ iv = nun i ∧ lv = .slice al m cl ∧ m ≤ cl ∧ cl ≤ 9223372036854775807 ∧ Hid (bk.length = m) ∧ (0 < i → 0 < m) ∧ Hid (∃ F A, A.wr = 32 + m ∧ A.fr = bk.reverse ∧ (∀ k ∈ bk, A.sl[k]? = some bare) ∧ La Rep w wr p w.heap.size F A s (.slice al m cl) bk)) (fun _ iv _ _ => 100 - (intOf iv).toNat)
      case atStart => exact ⟨0, 0, [], none, 0, Nat.zero_le _, Nat.zero_le _, Nat.zero_le _, rfl, rfl, Nat.zero_le _, by omega, rfl, fun h => h, HQ0.out⟩
      case round =>
        clear HQ0
        obtain ⟨i, m, bk, al, cl, hiN, hi100, hm32, rfl, rfl, hmc, hcl, hbl, him, hq⟩ := hrel
        obtain ⟨F5, A5, ha5, hf5, hs5, hla⟩ := hq.out
        by_cases hlt : i < N ∧ i < 100
        · have hiI : (i : Int) < (N : Int) := by omega
          have hiJ : (i : Int) < 100 := by omega
          obtain ⟨gv, ov, rfl, hgl, hcl'⟩ := HC.out (by rw [HN.out]; omega)
          obtain ⟨z, hz⟩ : ∃ z, l[i]? = some z := ⟨_, List.getElem?_eq_getElem (by rw [HN.out]; exact hlt.1)⟩
          have hcz : wr.cell? ⟨gv, ov + i, none⟩ = some (nu z) := (hla.bel.cell (p := ⟨gv, ov + i, none⟩) hgl).trans (hcl' i z hz)
          obtain ⟨q, hq1, hq32⟩ : ∃ q : Nat, z % 32 = q ∧ q < 32 := ⟨(z % 32).toNat, by omega, by omega⟩
          have hzr := HLI.out z (List.mem_of_getElem? hz)
          have cK : Hid (∀ wx, Calls Try.prog 8 #[nu z, nu 32] wx fun e w' => e = .returned (nun q) ∧ w' = wx) := fun wx => by
            have := pick_any z 32 wx (by decide) (by decide) hzr
            rw [show ((32 : Nat) : Int) = 32 from rfl, hq1] at this
            exact this
          have hsl := hla.good.len
          by_cases hqm : q ∈ A5.fr
          · have hmp : 0 < m := by
              have : bk ≠ [] := fun e => by rw [hf5, e] at hqm; simp at hqm
              have := List.length_pos_iff.2 this
              have := hbl.out
              omega
            have C : Hid (Calls Try.prog 12 #[ptr p, nun q] wr fun e w' => e = .returned (noE 9) ∧ Hid (∃ F A, A.wr = 32 + m ∧ A.fr = bk.reverse ∧ (∀ k ∈ bk, A.sl[k]? = some bare) ∧ La Rep w w' p w.heap.size F A s (.slice al m cl) bk)) := by
              have := cX.out wr p F5 A5 (q : Int) hla.rep hla.good (by omega) (by omega)
              rw [free_in hq32 hqm, show errE 9 = noE 9 from rfl] at this
              refine this.mono ?_
              rintro e w' ⟨rfl, hl⟩
              obtain ⟨F', h'⟩ := hla.turn hl hla.good
              exact ⟨rfl, F', A5, ha5, hf5, hs5, h'⟩
            clear hla hq hqm hf5 hs5 ha5 hcl' hz hzr hq1 cX cT cG cP cW
            go_wp2_with fail
            refine (cK.out _).mono ?_
            rintro e w' ⟨rfl, hw'⟩
            subst w'
            go_wp2_with fail
            refine C.out.mono ?_
            rintro e w5 ⟨rfl, hq5⟩
            clear C cK
            go_wp2
            go_roundw
            case rel => exact ⟨i + 1, m, bk, al, cl, by omega, by omega, hm32, by go_num, rfl, hmc, hcl, hbl, fun _ => hmp, hq5⟩
            case measure => simp [intOf]; omega
          · have hm31 : m + 1 ≤ 32 := by
              have h2 : (q :: A5.fr).Nodup := List.nodup_cons.2 ⟨hqm, hla.good.nd⟩
              have h3 := nodup_few 32 (q :: A5.fr) h2 (fun j hj => by
                rcases List.mem_cons.1 hj with rfl | hj
                · exact hq32
                · exact hla.good.lt j hj)
              rw [hf5] at h3
              simp at h3
              have := hbl.out
              omega
            have C : Hid (Calls Try.prog 12 #[ptr p, nun q] wr fun e w' => e = .returned .nilIface ∧ Hid (∃ F A, A.wr = 32 + (m + 1) ∧ A.fr = (bk ++ [q]).reverse ∧ (∀ k ∈ bk ++ [q], A.sl[k]? = some bare) ∧ La Rep w w' p w.heap.size F A s (.slice al m cl) bk)) := by
              have := cX.out wr p F5 A5 (q : Int) hla.rep hla.good (by omega) (by omega)
              have hg := hla.good.free (q : Int)
              rw [free_out hq32 hqm] at this hg
              rw [show errE 0 = .nilIface from rfl] at this
              refine this.mono ?_
              rintro e w' ⟨rfl, hl⟩
              obtain ⟨F', h'⟩ := hla.turn hl hg
              refine ⟨rfl, F', ⟨A5.sl.set q bare, q :: A5.fr, A5.wr + 1⟩, by simp only; omega, by simp only; rw [hf5]; simp, fun k hk => ?_, h'⟩
              simp only
              by_cases e : q = k
              · subst e
                rw [List.getElem?_set_self (by omega)]
              · rw [List.getElem?_set_ne e]
                rcases List.mem_append.1 hk with h1 | h1
                · exact hs5 k h1
                · simp at h1
                  exact absurd h1.symm e
            have hone : Hid (∀ u ∈ [nun q], u.oneCell' = true) := by
              intro u hu
              simp at hu
              subst hu
              rfl
            have HLn : Hid ((bk ++ [q]).length = m + 1) := by show _ = _; rw [List.length_append, hbl.out]; rfl
            have HYM : Hid ((bk ++ [q]).map nun = bk.map nun ++ [nun q]) := by show _ = _; simp
            have hmx : Hid (m + 1 ≤ maxLen) := by show _ ≤ _; unfold maxLen; omega
            have hby : Hid ((m + 1) * 8 ≤ 140737488355328) := by show _ ≤ _; omega
            clear hla hq hqm hf5 hs5 ha5 hcl' hz hzr hq1 cX cT cG cP cW
            go_wp2_with fail
            refine (cK.out _).mono ?_
            rintro e w' ⟨rfl, hw'⟩
            subst w'
            go_wp2_with fail
            refine C.out.mono ?_
            rintro e w5 ⟨rfl, hq5⟩
            obtain ⟨F6, A6, e1, e2, e3, hla6⟩ := hq5.out
            have HLA6 := Hid.mk' (hla6.below HH.out ((Below.refl _ _).alloc (Nat.le_refl _) (.cells #[nun q] 3)))
            have HRW : Hid ((w5.alloc (.cells #[nun q] 3)).ownsRow w.heap.size 3 1 (.slice al m cl) m (bk.map nun)) := by
              have := HLA6.out.row
              rw [hbl.out] at this
              exact this
            have hbsz : Hid (w.heap.size ≤ (w5.alloc (.cells #[nun q] 3)).heap.size) := HLA6.out.bel.size
            have HFIN : Hid (∀ w8 g8 c8, w8.ownsRow w.heap.size 3 1 (.slice (some ⟨g8, 0, none⟩) (m + 1) c8) (m + 1) (bk.map nun ++ [nun q]) → (w5.alloc (.cells #[nun q] 3)).grownBy w8 (Value.slice al m cl).ownBlock → ((Value.slice al m cl).ownBlock = some g8 ∨ g8 = (w5.alloc (.cells #[nun q] 3)).heap.size) → (m + 1 ≤ c8 ∧ c8 ≤ 9223372036854775807) ∧ ∃ F A, A.wr = 32 + (m + 1) ∧ A.fr = (bk ++ [q]).reverse ∧ (∀ k ∈ bk ++ [q], A.sl[k]? = some bare) ∧ La Rep w w8 p w.heap.size F A s (.slice (some ⟨g8, 0, none⟩) (m + 1) c8) (bk ++ [q])) := fun w8 g8 c8 h1 h2 h3 => by
              have hsh : m + 1 ≤ c8 ∧ c8 ≤ 9223372036854775807 := by
                obtain ⟨a', c', e', h4, h5, _⟩ := Nm.own_shape h1
                simp only [Value.slice.injEq, true_and] at e'
                obtain ⟨_, rfl⟩ := e'
                unfold maxLen at h5
                omega
              refine ⟨hsh, F6, A6, e1, e2, e3, ?_⟩
              have hg := HLA6.out.grown HH.out (bk' := bk ++ [q]) (g := g8) (cap := c8) (by rw [HLn.out, HYM.out]; exact h1) h2 h3
              rw [HLn.out] at hg
              exact hg
            clear C cK hla6 hq5 e1 e2 e3 HLA6
            go_wp2_with (at_builtin; refine wpList_append_lies _ rfl _ _ 48 rfl w.heap.size 3 i0 (.int .i64 0) 1 8 Try.underlying48 ji hz0 hz1 hz2 rfl (by decide) (.slice al m cl) m (bk.map nun) rfl HRW.out ⟨w5.heap.size, 0, none⟩ 1 1 [nun q] rfl rfl (World.news_of_block (heap_alloc_new _ _)) hone.out (by decide) hmx.out hby.out hbsz.out _ rfl ?_; intro g8 c8 w8 ho8 hg8 hat8 _; obtain ⟨⟨hc8, hd8⟩, hq8⟩ := HFIN.out w8 g8 c8 ho8 hg8 hat8; have HQ8 := Hid.mk' hq8; clear ho8 hg8 hat8 hq8)
            go_roundw
            case rel => exact ⟨i + 1, m + 1, bk ++ [q], _, c8, by omega, by omega, hm31, by go_num, rfl, hc8, hd8, HLn, fun _ => by omega, HQ8⟩
            case measure => simp [intOf]; omega
        · have hend : N = 0 ∨ 0 < m := by
            rcases Nat.eq_zero_or_pos i with h0 | h0
            · left; omega
            · right; exact him h0
          have HQ3 : Hid (∃ F A, A.wr = 32 + m ∧ A.fr = (bk.take m).reverse ∧ (∀ k ∈ bk, A.sl[k]? = some bare) ∧ La Rep w wr p w.heap.size F A s (.slice al m cl) bk) := ⟨F5, A5, ha5, by rw [List.take_of_length_le (by rw [hbl.out]; exact Nat.le_refl _)]; exact hf5, hs5, hla⟩
          rename World => wp
          clear hla hq hf5 hs5 ha5 HC HLI
          by_cases h1 : i < N
          · have hiI : (i : Int) < (N : Int) := by omega
            have hiJ : ¬ (i : Int) < 100 := by omega
            go_wp2_with fail
            go_loopw [12, 13, 14, 15, 16] (fun iv _ _ _ _ wr => ∃ (j : Nat), j ≤ m ∧ iv = nu ((j : Int) - 1) ∧ Hid (∃ F A, A.wr = 32 + m ∧ A.fr = (bk.take j).reverse ∧ (∀ k ∈ bk, A.sl[k]? = some bare) ∧ La Rep w wr p w.heap.size F A s (.slice al m cl) bk)) (fun iv _ _ _ _ _ => (intOf iv + 1).toNat)
            case atStart => exact ⟨m, Nat.le_refl _, by go_num, HQ3.out⟩
            case round =>
              clear HQ3
              obtain ⟨j, hj, rfl, hq⟩ := hrel
              obtain ⟨F5, A5, ha5, hf5, hs5, hla⟩ := hq.out
              cases j with
              | zero =>
                rw [show (((0 : Nat) : Int) - 1) = -1 from rfl]
                have hfr : A5.fr = [] := by rw [hf5]; simp
                have C1 : Hid (Calls Try.prog 10 #[ptr p] wr fun e w' => e = .returned (.tuple #[nun 0, noE 19]) ∧ Hid (∃ F A, A.wr = 32 + m ∧ Rep w' p F A ∧ Below w.heap.size w w')) := by
                  have := cT.out wr p F5 A5 hla.rep hla.good
                  rw [take_fr_nil hfr, show errE 19 = noE 19 from rfl] at this
                  refine this.mono ?_
                  rintro e w' ⟨rfl, hl⟩
                  obtain ⟨F', h'⟩ := hla.turn hl hla.good
                  exact ⟨rfl, F', A5, ha5, h'.rep, h'.bel⟩
                have C2 : Hid (∀ wx, Calls Try.prog 15 #[noE 19] wx fun e w' => e = .returned (nu 19) ∧ Below wx.heap.size wx w') := fun wx => Er.num_no 19 (by decide) (by decide) wx
                have C3 : Hid (∀ w5 wx, Hid (∃ F A, A.wr = 32 + m ∧ Rep w5 p F A ∧ Below w.heap.size w w5) → Below w5.heap.size w5 wx → Calls Try.prog 16 #[ptr p] wx fun e w' => e = .returned (nu (32 + (m : Int))) ∧ Below w.heap.size w w') := fun w5 wx hq hb => by
                  obtain ⟨F1, A1, h1, h2, h3⟩ := hq.out
                  have := cW.out wx p F1 A1 (HH.out.below h2 hb) (by omega)
                  rw [h1, show nun (32 + m) = nu (32 + (m : Int)) from by show Value.int .i64 _ = Value.int .i64 _; congr 1] at this
                  refine this.mono ?_
                  rintro e w' ⟨rfl, hb'⟩
                  have hbx := h3.trans (hb.mono h3.size)
                  exact ⟨rfl, hbx.trans (hb'.mono hbx.size)⟩
                clear hla hq hfr hf5 hs5 ha5 cT cX cG cP cW
                have hmI32 : (m : Int) ≤ 32 := by omega
                have hsw : ((32 + (m : Int)) == (32 + (m : Int))) = true := by simp
                rcases hend with hend | hend
                · subst hend
                  go_wp2_with fail
                  refine C1.out.mono ?_
                  rintro e w5 ⟨rfl, hq5⟩
                  go_wp2_with fail
                  refine (C2.out _).mono ?_
                  rintro e w6 ⟨rfl, hb6⟩
                  have HC3 := Hid.mk' (C3.out w5 w6 hq5 hb6)
                  clear C1 C2 C3 hb6 hq5
                  go_wp2_with fail
                  refine HC3.out.mono ?_
                  rintro e w7 ⟨rfl, hb7⟩
                  have HB7 := Hid.mk' hb7
                  clear hb7 HC3
                  go_wp2
                  go_ret
                  exact ⟨rfl, HB7.out⟩
                · have hmI : (0 : Int) < (m : Int) := by omega
                  by_cases hN0 : N = 0
                  · subst hN0
                    go_wp2_with fail
                    refine C1.out.mono ?_
                    rintro e w5 ⟨rfl, hq5⟩
                    go_wp2_with fail
                    refine (C2.out _).mono ?_
                    rintro e w6 ⟨rfl, hb6⟩
                    have HC3 := Hid.mk' (C3.out w5 w6 hq5 hb6)
                    clear C1 C2 C3 hb6 hq5
                    go_wp2_with fail
                    refine HC3.out.mono ?_
                    rintro e w7 ⟨rfl, hb7⟩
                    have HB7 := Hid.mk' hb7
                    clear hb7 HC3
                    go_wp2
                    go_ret
                    exact ⟨rfl, HB7.out⟩
                  · have hNe : ((N : Int) == 0) = false := by rw [beq_eq_false_iff_ne]; omega
                    go_wp2_with fail
                    refine C1.out.mono ?_
                    rintro e w5 ⟨rfl, hq5⟩
                    go_wp2_with fail
                    refine (C2.out _).mono ?_
                    rintro e w6 ⟨rfl, hb6⟩
                    have HC3 := Hid.mk' (C3.out w5 w6 hq5 hb6)
                    clear C1 C2 C3 hb6 hq5
                    go_wp2_with fail
                    refine HC3.out.mono ?_
                    rintro e w7 ⟨rfl, hb7⟩
                    have HB7 := Hid.mk' hb7
                    clear hb7 HC3
                    go_wp2
                    go_ret
                    exact ⟨rfl, HB7.out⟩
              | succ j =>
                rw [show (((j + 1 : Nat) : Int) - 1) = (j : Int) from by omega]
                obtain ⟨y, hy⟩ : ∃ y, bk[j]? = some y := ⟨_, List.getElem?_eq_getElem (by rw [hbl.out]; omega)⟩
                have hym : y ∈ bk := List.mem_of_getElem? hy
                have hfr : A5.fr = y :: (bk.take j).reverse := by
                  rw [hf5, List.take_add_one, hy]
                  simp
                have hy32 : y < 32 := hla.good.lt y (by rw [hfr]; simp)
                have hcy : wr.cell? ⟨(match al with | some a => a.block | none => 0), j, none⟩ = some (nun y) ∧ ∃ g, al = some ⟨g, 0, none⟩ := by
                  have hro := hla.row
                  obtain ⟨a', c', e', _, _, h3⟩ := own_rdN hro
                  rw [hbl.out] at e' h3
                  simp only [Value.slice.injEq, true_and] at e'
                  obtain ⟨rfl, rfl⟩ := e'
                  obtain ⟨g, rfl, _, h4⟩ := h3 (by omega)
                  exact ⟨h4 j y hy, g, rfl⟩
                obtain ⟨hcy1, gl, rfl⟩ := hcy
                simp only at hcy1
                have C1 : Hid (Calls Try.prog 10 #[ptr p] wr fun e w' => e = .returned (.tuple #[nun y, .nilIface]) ∧ w'.cell? ⟨gl, j, none⟩ = some (nun y) ∧ Hid (∃ F A, A.wr = 32 + m ∧ A.fr = (bk.take j).reverse ∧ (∀ k ∈ bk, A.sl[k]? = some bare) ∧ La Rep w w' p w.heap.size F A s (.slice (some ⟨gl, 0, none⟩) m cl) bk)) := by
                  have := cT.out wr p F5 A5 hla.rep hla.good
                  have hg := hla.good.take
                  rw [take_fr_cons hfr] at this hg
                  rw [show errE 0 = .nilIface from rfl] at this
                  refine this.mono ?_
                  rintro e w' ⟨rfl, hl⟩
                  obtain ⟨F', h'⟩ := hla.turn hl hg
                  have hc' : w'.cell? ⟨gl, j, none⟩ = some (nun y) := by
                    obtain ⟨a', c', e', _, _, h3⟩ := own_rdN h'.row
                    rw [hbl.out] at e' h3
                    simp only [Value.slice.injEq, true_and] at e'
                    obtain ⟨rfl, rfl⟩ := e'
                    obtain ⟨g, e4, _, h4⟩ := h3 (by omega)
                    obtain rfl : gl = g := by simpa using e4
                    exact h4 j y hy
                  exact ⟨rfl, hc', F', ⟨A5.sl, (bk.take j).reverse, A5.wr⟩, ha5, rfl, hs5, h'⟩
                have C2 : Hid (∀ wx, Hid (∃ F A, A.wr = 32 + m ∧ A.fr = (bk.take j).reverse ∧ (∀ k ∈ bk, A.sl[k]? = some bare) ∧ La Rep w wx p w.heap.size F A s (.slice (some ⟨gl, 0, none⟩) m cl) bk) → Calls Try.prog 14 #[ptr p, nun y] wx fun e w' => e = .returned (.tuple #[bare.v, .nilIface]) ∧ Below wx.heap.size wx w') := fun wx hq => by
                  obtain ⟨F1, A1, h1, h2, h3, h4⟩ := hq.out
                  have := cG.out wx p F1 A1 (y : Int) h4.rep h4.good (by omega)
                  have he : A1.at (y : Int) = bare := by
                    unfold Arn.at
                    rw [if_pos (there_nat hy32), Int.toNat_natCast, List.getD_eq_getElem?_getD, h3 y hym]
                    rfl
                  have he2 : Arn.atE (y : Int) = 0 := by unfold Arn.atE; rw [if_pos (there_nat hy32)]
                  rw [he, he2] at this
                  exact this
                have hfin : Hid (∀ w5 wx, Hid (∃ F A, A.wr = 32 + m ∧ A.fr = (bk.take j).reverse ∧ (∀ k ∈ bk, A.sl[k]? = some bare) ∧ La Rep w w5 p w.heap.size F A s (.slice (some ⟨gl, 0, none⟩) m cl) bk) → Below w5.heap.size w5 wx → wx.cell? ⟨gl, j, none⟩ = some (nun y) ∧ Hid (∃ F A, A.wr = 32 + m ∧ A.fr = (bk.take j).reverse ∧ (∀ k ∈ bk, A.sl[k]? = some bare) ∧ La Rep w wx p w.heap.size F A s (.slice (some ⟨gl, 0, none⟩) m cl) bk)) := fun w5 wx hq hb => by
                  obtain ⟨F1, A1, h1, h2, h3, h4⟩ := hq.out
                  have h' := h4.below HH.out hb
                  refine ⟨?_, F1, A1, h1, h2, h3, h'⟩
                  obtain ⟨a', c', e', _, _, h3⟩ := own_rdN h'.row
                  rw [hbl.out] at e' h3
                  simp only [Value.slice.injEq, true_and] at e'
                  obtain ⟨rfl, rfl⟩ := e'
                  obtain ⟨g, e4, _, h4⟩ := h3 (by omega)
                  obtain rfl : gl = g := by simpa using e4
                  exact h4 j y hy
                have hjI : (j : Int) < (m : Int) := by omega
                have hyy : ((y : Int) == (y : Int)) = true := by simp
                have hnb := neq_bare
                clear hla hq hfr hf5 hs5 ha5 hym hy cT cX cG cP cW hcy1
                go_wp2_with fail
                refine C1.out.mono ?_
                rintro e w5 ⟨rfl, hc5, hq5⟩
                have HC2 := Hid.mk' (C2.out w5 hq5)
                clear C1 C2
                go_wp2_with fail
                refine HC2.out.mono ?_
                rintro e w6 ⟨rfl, hb6⟩
                have HZ6 := Hid.mk' (lone_zero w6)
                have HB6 := Hid.mk' hb6
                clear HC2 hb6 hc5
                go_wp2_with (first | (refine wpList_store_lone rfl _ _ rfl w6.heap.size rfl bare rfl slt0 HZ6.out ?_; intro w7 hl7 hg7 hs7; have HL7 := Hid.mk' hl7; have hb7 : Below w5.heap.size w5 w7 := ((HB6.out.alloc HB6.out.size _).grown hg7 (HB6.out.alloc HB6.out.size _).size (fun r e => by cases e; exact HB6.out.size)); obtain ⟨hc7, hq7⟩ := hfin.out w5 w7 hq5 hb7; clear hl7 hg7 hs7 hb7) | (refine wpList_load_when (by rfl) _ rfl w6.heap.size rfl bare HL7.out ?_) | fail)
                go_roundw
                case rel => exact ⟨j, by omega, by go_num, hq7⟩
                case measure => simp [intOf]
          · have hiI : ¬ (i : Int) < (N : Int) := by omega
            go_wp2_with fail
            go_loopw [12, 13, 14, 15, 16] (fun iv _ _ _ _ wr => ∃ (j : Nat), j ≤ m ∧ iv = nu ((j : Int) - 1) ∧ Hid (∃ F A, A.wr = 32 + m ∧ A.fr = (bk.take j).reverse ∧ (∀ k ∈ bk, A.sl[k]? = some bare) ∧ La Rep w wr p w.heap.size F A s (.slice al m cl) bk)) (fun iv _ _ _ _ _ => (intOf iv + 1).toNat)
            case atStart => exact ⟨m, Nat.le_refl _, by go_num, HQ3.out⟩
            case round =>
              clear HQ3
              obtain ⟨j, hj, rfl, hq⟩ := hrel
              obtain ⟨F5, A5, ha5, hf5, hs5, hla⟩ := hq.out
              cases j with
              | zero =>
                rw [show (((0 : Nat) : Int) - 1) = -1 from rfl]
                have hfr : A5.fr = [] := by rw [hf5]; simp
                have C1 : Hid (Calls Try.prog 10 #[ptr p] wr fun e w' => e = .returned (.tuple #[nun 0, noE 19]) ∧ Hid (∃ F A, A.wr = 32 + m ∧ Rep w' p F A ∧ Below w.heap.size w w')) := by
                  have := cT.out wr p F5 A5 hla.rep hla.good
                  rw [take_fr_nil hfr, show errE 19 = noE 19 from rfl] at this
                  refine this.mono ?_
                  rintro e w' ⟨rfl, hl⟩
                  obtain ⟨F', h'⟩ := hla.turn hl hla.good
                  exact ⟨rfl, F', A5, ha5, h'.rep, h'.bel⟩
                have C2 : Hid (∀ wx, Calls Try.prog 15 #[noE 19] wx fun e w' => e = .returned (nu 19) ∧ Below wx.heap.size wx w') := fun wx => Er.num_no 19 (by decide) (by decide) wx
                have C3 : Hid (∀ w5 wx, Hid (∃ F A, A.wr = 32 + m ∧ Rep w5 p F A ∧ Below w.heap.size w w5) → Below w5.heap.size w5 wx → Calls Try.prog 16 #[ptr p] wx fun e w' => e = .returned (nu (32 + (m : Int))) ∧ Below w.heap.size w w') := fun w5 wx hq hb => by
                  obtain ⟨F1, A1, h1, h2, h3⟩ := hq.out
                  have := cW.out wx p F1 A1 (HH.out.below h2 hb) (by omega)
                  rw [h1, show nun (32 + m) = nu (32 + (m : Int)) from by show Value.int .i64 _ = Value.int .i64 _; congr 1] at this
                  refine this.mono ?_
                  rintro e w' ⟨rfl, hb'⟩
                  have hbx := h3.trans (hb.mono h3.size)
                  exact ⟨rfl, hbx.trans (hb'.mono hbx.size)⟩
                clear hla hq hfr hf5 hs5 ha5 cT cX cG cP cW
                have hmI32 : (m : Int) ≤ 32 := by omega
                have hsw : ((32 + (m : Int)) == (32 + (m : Int))) = true := by simp
                rcases hend with hend | hend
                · subst hend
                  go_wp2_with fail
                  refine C1.out.mono ?_
                  rintro e w5 ⟨rfl, hq5⟩
                  go_wp2_with fail
                  refine (C2.out _).mono ?_
                  rintro e w6 ⟨rfl, hb6⟩
                  have HC3 := Hid.mk' (C3.out w5 w6 hq5 hb6)
                  clear C1 C2 C3 hb6 hq5
                  go_wp2_with fail
                  refine HC3.out.mono ?_
                  rintro e w7 ⟨rfl, hb7⟩
                  have HB7 := Hid.mk' hb7
                  clear hb7 HC3
                  go_wp2
                  go_ret
                  exact ⟨rfl, HB7.out⟩
                · have hmI : (0 : Int) < (m : Int) := by omega
                  by_cases hN0 : N = 0
                  · subst hN0
                    go_wp2_with fail
                    refine C1.out.mono ?_
                    rintro e w5 ⟨rfl, hq5⟩
                    go_wp2_with fail
                    refine (C2.out _).mono ?_
                    rintro e w6 ⟨rfl, hb6⟩
                    have HC3 := Hid.mk' (C3.out w5 w6 hq5 hb6)
                    clear C1 C2 C3 hb6 hq5
                    go_wp2_with fail
                    refine HC3.out.mono ?_
                    rintro e w7 ⟨rfl, hb7⟩
                    have HB7 := Hid.mk' hb7
                    clear hb7 HC3
                    go_wp2
                    go_ret
                    exact ⟨rfl, HB7.out⟩
                  · have hNe : ((N : Int) == 0) = false := by rw [beq_eq_false_iff_ne]; omega
                    go_wp2_with fail
                    refine C1.out.mono ?_
                    rintro e w5 ⟨rfl, hq5⟩
                    go_wp2_with fail
                    refine (C2.out _).mono ?_
                    rintro e w6 ⟨rfl, hb6⟩
                    have HC3 := Hid.mk' (C3.out w5 w6 hq5 hb6)
                    clear C1 C2 C3 hb6 hq5
                    go_wp2_with fail
                    refine HC3.out.mono ?_
                    rintro e w7 ⟨rfl, hb7⟩
                    have HB7 := Hid.mk' hb7
                    clear hb7 HC3
                    go_wp2
                    go_ret
                    exact ⟨rfl, HB7.out⟩
              | succ j =>
                rw [show (((j + 1 : Nat) : Int) - 1) = (j : Int) from by omega]
                obtain ⟨y, hy⟩ : ∃ y, bk[j]? = some y := ⟨_, List.getElem?_eq_getElem (by rw [hbl.out]; omega)⟩
                have hym : y ∈ bk := List.mem_of_getElem? hy
                have hfr : A5.fr = y :: (bk.take j).reverse := by
                  rw [hf5, List.take_add_one, hy]
                  simp
                have hy32 : y < 32 := hla.good.lt y (by rw [hfr]; simp)
                have hcy : wr.cell? ⟨(match al with | some a => a.block | none => 0), j, none⟩ = some (nun y) ∧ ∃ g, al = some ⟨g, 0, none⟩ := by
                  have hro := hla.row
                  obtain ⟨a', c', e', _, _, h3⟩ := own_rdN hro
                  rw [hbl.out] at e' h3
                  simp only [Value.slice.injEq, true_and] at e'
                  obtain ⟨rfl, rfl⟩ := e'
                  obtain ⟨g, rfl, _, h4⟩ := h3 (by omega)
                  exact ⟨h4 j y hy, g, rfl⟩
                obtain ⟨hcy1, gl, rfl⟩ := hcy
                simp only at hcy1
                have C1 : Hid (Calls Try.prog 10 #[ptr p] wr fun e w' => e = .returned (.tuple #[nun y, .nilIface]) ∧ w'.cell? ⟨gl, j, none⟩ = some (nun y) ∧ Hid (∃ F A, A.wr = 32 + m ∧ A.fr = (bk.take j).reverse ∧ (∀ k ∈ bk, A.sl[k]? = some bare) ∧ La Rep w w' p w.heap.size F A s (.slice (some ⟨gl, 0, none⟩) m cl) bk)) := by
                  have := cT.out wr p F5 A5 hla.rep hla.good
                  have hg := hla.good.take
                  rw [take_fr_cons hfr] at this hg
                  rw [show errE 0 = .nilIface from rfl] at this
                  refine this.mono ?_
                  rintro e w' ⟨rfl, hl⟩
                  obtain ⟨F', h'⟩ := hla.turn hl hg
                  have hc' : w'.cell? ⟨gl, j, none⟩ = some (nun y) := by
                    obtain ⟨a', c', e', _, _, h3⟩ := own_rdN h'.row
                    rw [hbl.out] at e' h3
                    simp only [Value.slice.injEq, true_and] at e'
                    obtain ⟨rfl, rfl⟩ := e'
                    obtain ⟨g, e4, _, h4⟩ := h3 (by omega)
                    obtain rfl : gl = g := by simpa using e4
                    exact h4 j y hy
                  exact ⟨rfl, hc', F', ⟨A5.sl, (bk.take j).reverse, A5.wr⟩, ha5, rfl, hs5, h'⟩
                have C2 : Hid (∀ wx, Hid (∃ F A, A.wr = 32 + m ∧ A.fr = (bk.take j).reverse ∧ (∀ k ∈ bk, A.sl[k]? = some bare) ∧ La Rep w wx p w.heap.size F A s (.slice (some ⟨gl, 0, none⟩) m cl) bk) → Calls Try.prog 14 #[ptr p, nun y] wx fun e w' => e = .returned (.tuple #[bare.v, .nilIface]) ∧ Below wx.heap.size wx w') := fun wx hq => by
                  obtain ⟨F1, A1, h1, h2, h3, h4⟩ := hq.out
                  have := cG.out wx p F1 A1 (y : Int) h4.rep h4.good (by omega)
                  have he : A1.at (y : Int) = bare := by
                    unfold Arn.at
                    rw [if_pos (there_nat hy32), Int.toNat_natCast, List.getD_eq_getElem?_getD, h3 y hym]
                    rfl
                  have he2 : Arn.atE (y : Int) = 0 := by unfold Arn.atE; rw [if_pos (there_nat hy32)]
                  rw [he, he2] at this
                  exact this
                have hfin : Hid (∀ w5 wx, Hid (∃ F A, A.wr = 32 + m ∧ A.fr = (bk.take j).reverse ∧ (∀ k ∈ bk, A.sl[k]? = some bare) ∧ La Rep w w5 p w.heap.size F A s (.slice (some ⟨gl, 0, none⟩) m cl) bk) → Below w5.heap.size w5 wx → wx.cell? ⟨gl, j, none⟩ = some (nun y) ∧ Hid (∃ F A, A.wr = 32 + m ∧ A.fr = (bk.take j).reverse ∧ (∀ k ∈ bk, A.sl[k]? = some bare) ∧ La Rep w wx p w.heap.size F A s (.slice (some ⟨gl, 0, none⟩) m cl) bk)) := fun w5 wx hq hb => by
                  obtain ⟨F1, A1, h1, h2, h3, h4⟩ := hq.out
                  have h' := h4.below HH.out hb
                  refine ⟨?_, F1, A1, h1, h2, h3, h'⟩
                  obtain ⟨a', c', e', _, _, h3⟩ := own_rdN h'.row
                  rw [hbl.out] at e' h3
                  simp only [Value.slice.injEq, true_and] at e'
                  obtain ⟨rfl, rfl⟩ := e'
                  obtain ⟨g, e4, _, h4⟩ := h3 (by omega)
                  obtain rfl : gl = g := by simpa using e4
                  exact h4 j y hy
                have hjI : (j : Int) < (m : Int) := by omega
                have hyy : ((y : Int) == (y : Int)) = true := by simp
                have hnb := neq_bare
                clear hla hq hfr hf5 hs5 ha5 hym hy cT cX cG cP cW hcy1
                go_wp2_with fail
                refine C1.out.mono ?_
                rintro e w5 ⟨rfl, hc5, hq5⟩
                have HC2 := Hid.mk' (C2.out w5 hq5)
                clear C1 C2
                go_wp2_with fail
                refine HC2.out.mono ?_
                rintro e w6 ⟨rfl, hb6⟩
                have HZ6 := Hid.mk' (lone_zero w6)
                have HB6 := Hid.mk' hb6
                clear HC2 hb6 hc5
                go_wp2_with (first | (refine wpList_store_lone rfl _ _ rfl w6.heap.size rfl bare rfl slt0 HZ6.out ?_; intro w7 hl7 hg7 hs7; have HL7 := Hid.mk' hl7; have hb7 : Below w5.heap.size w5 w7 := ((HB6.out.alloc HB6.out.size _).grown hg7 (HB6.out.alloc HB6.out.size _).size (fun r e => by cases e; exact HB6.out.size)); obtain ⟨hc7, hq7⟩ := hfin.out w5 w7 hq5 hb7; clear hl7 hg7 hs7 hb7) | (refine wpList_load_when (by rfl) _ rfl w6.heap.size rfl bare HL7.out ?_) | fail)
                go_roundw
                case rel => exact ⟨j, by omega, by go_num, hq7⟩
                case measure => simp [intOf]
end An
end Go.Proofs.Ytalpbciceogjlaa
