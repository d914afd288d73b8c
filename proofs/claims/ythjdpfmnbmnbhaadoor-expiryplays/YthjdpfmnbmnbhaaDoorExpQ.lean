/- Whatever is set, forgotten and gone over, an expiry answers as the document has it: ExpiryPlays out of what the program's calls must answer. -/
import Derived.Test.YthjdpfmnbmnbhaaDoorExpK
namespace Go.Proofs.YthjdpfmnbmnbhaaDoor
set_option linter.ambiguousOpen false
open Go.RowKit
namespace Ex
open Hh Ft
set_option linter.unusedSimpArgs false
set_option linter.unusedVariables false
attribute [local go_sem] Oper.semAt_some

/-- A list of acts. -/
def RdX (w : World) (v : Value) (L : List Xact) : Prop :=
  ∃ a cap, v = .slice a L.length cap ∧ L.length ≤ cap ∧ cap ≤ maxLen ∧ (0 < L.length → ∃ g o, a = some ⟨g, o, none⟩ ∧ g < w.heap.size ∧ ∀ n x, L[n]? = some x → w.rangeAt g (o + n * 5) x.cells)

theorem range_belE {w w' : World} {B g o : Nat} {cs : List Value} (h : w.rangeAt g o cs) (hb : Below B w w') (hg : g < B) : w'.rangeAt g o cs := fun j v hv => (hb.cell (p := ⟨g, o + j, none⟩) hg).trans (h j v hv)

set_option maxRecDepth 1000000 in
set_option maxHeartbeats 16000000 in
theorem expiryPlays_yes {R : RepXT} (C : ExpiryC R) (sv : Value) (L : List Xact) (w : World) (hR : RdX w sv L) (hF : ∀ x ∈ L, x.fits) (hE : Er.Handle w) :
    Calls Tryd.prog 3 #[sv] w fun e w' => e = .returned (.bool true) ∧ Below w.heap.size w w' := by
  obtain ⟨av, cv, rfl, hc1, hc2, hcell⟩ := hR
  obtain ⟨m, hm⟩ : ∃ m, L.length = m := ⟨_, rfl⟩
  have HM := Hid.mk' hm
  have HCL := Hid.mk' hcell
  have HF := Hid.mk' hF
  have HE := Hid.mk' hE
  have HC := Hid.mk' C
  rw [hm] at hc1 ⊢
  unfold maxLen at hc2
  have hcI : (cv : Int) ≤ 9223372036854775807 := by omega
  have c1 := Hid.mk' (C.new w)
  clear hcell hF hm hE
  by_cases hbig : 2000 < m
  · have hbI : (2000 : Int) < (m : Int) := by omega
    clear c1
    go_enter Tryd.func3, Tryd.ntmps3
    go_wp2
    go_ret
    exact ⟨rfl, Below.refl _ _⟩
  have hbI : ¬ (2000 : Int) < (m : Int) := by omega
  go_enter Tryd.func3, Tryd.ntmps3
  go_wp2_with fail
  refine c1.out.mono ?_
  rintro e w1 ⟨p, F, rfl, hr1, hf1, hb1⟩
  have c2 := Hid.mk' (C.new w1)
  have HR1 := Hid.mk' hr1
  have HF1 := Hid.mk' hf1
  have HB1 := Hid.mk' hb1
  clear hr1 hf1 hb1 c1
  go_wp2_with fail
  refine c2.out.mono ?_
  rintro e w2 ⟨po, Fo, rfl, hr2, hf2, hb2⟩
  obtain ⟨t, ht⟩ : ∃ t, w2.heap.size = t := ⟨_, rfl⟩
  obtain ⟨w3, hw3⟩ : ∃ w3, w2.alloc (.cells #[.slice none 0 0] 28) = w3 := ⟨_, rfl⟩
  have hb3 : Below w2.heap.size w2 w3 := by rw [← hw3]; exact (Below.refl _ _).alloc (Nat.le_refl _) _
  have hs3 : w3.heap.size = t + 1 := by rw [← hw3, ← ht]; simp
  have hg3 : w3.heap[t]? = some (.cells #[.slice none 0 0] 28) := by rw [← hw3, ← ht]; exact heap_alloc_new _ _
  have hlt1 := C.lt HR1.out
  have hlt2 := C.lt hr2
  have hs1 := HB1.out.size
  have hs2 := hb2.size
  have HBD : Hid (∃ G, Bd R t w w3 w3 p t F G F G [] [] ∧ (∀ k, Fo k → ¬ F k ∧ ¬ G k)) := by
    refine ⟨fun k => k = t ∨ Value.ownBlock (.slice none 0 0) = some k, ⟨⟨C.below (C.below HR1.out hb2) hb3, HF1.out, (HB1.out.trans (hb2.mono hs1)).trans (hb3.mono (by omega))⟩, ⟨.slice none 0 0, ⟨hg3, World.ownsRow_nil _ _ _ _, Nat.le_refl _, by simp [Value.ownBlock]⟩, rfl, by omega, Ge.nil⟩, fun k hk hc => ?_, fun k hk => ?_, Keep.refl _ _, fun _ h => .inl h, fun _ h => .inl h, by omega⟩, fun k hk => ⟨fun e => ?_, fun e => ?_⟩⟩
    · have := hlt1 k hk
      rcases hc with e | e
      · omega
      · simp [Value.ownBlock] at e
    · rcases hk with e | e
      · omega
      · simp [Value.ownBlock] at e
    · have := hlt1 k e
      have := hf2 k hk
      omega
    · have := hlt2 k hk
      rcases e with e | e
      · omega
      · simp [Value.ownBlock] at e
  have HR3 : Hid (R w3 po Fo []) := C.below hr2 hb3
  have HFO : Hid (∀ k, Fo k → k < w3.heap.size) := fun k hk => by have := hlt2 k hk; omega
  have HW3 := Hid.mk' hw3
  have HT := Hid.mk' ht
  clear hr2 hf2 hb2 hb3 hs3 hg3 hlt1 hlt2 hs1 hs2 hw3 ht c2 HR1 HF1
  obtain ⟨G, hbd, hdis⟩ := HBD.out
  have HDIS := Hid.mk' hdis
  have HB0 : Hid (∃ F' G' L', Bd R t w w3 w3 p t F G F' G' L' L') := ⟨F, G, [], hbd⟩
  have cDo : Hid (∀ wx (x : Xact), x.fits → Hid (∃ F' G' L', Bd R t w w3 wx p t F G F' G' L' L') → Calls Tryd.prog 5 #[ptr p, ptr t, .agg #[nu x.k, nu x.a, nu x.n, nu x.s, nu x.b]] wx fun e w' => e = .returned (.bool true) ∧ Hid (∃ F' G' L', Bd R t w w3 w' p t F G F' G' L' L')) := fun wx x hx hq => by
    obtain ⟨F', G', L', g⟩ := hq.out
    refine (does_any C t w wx p t F' G' L' x g.start hx HE.out).mono ?_
    rintro e w' ⟨rfl, F2, G2, L2, g2⟩
    exact ⟨rfl, F2, G2, L2, g.trans g2⟩
  have cN3 : Hid (∀ wx, Hid (∃ F' G' L', Bd R t w w3 wx p t F G F' G' L' L') → Calls Tryd.prog 5 #[ptr p, ptr t, .agg #[nu 3, nu 0, nu 0, nu 0, nu 0]] wx fun e w' => e = .returned (.bool true) ∧ Hid (∃ F' G' L', Bd R t w w3 w' p t F G F' G' L' L')) := fun wx hq => cDo.out wx ⟨3, 0, 0, 0, 0⟩ (by unfold Xact.fits I64e; dsimp only; omega) hq
  have cN4 : Hid (∀ wx, Hid (∃ F' G' L', Bd R t w w3 wx p t F G F' G' L' L') → Calls Tryd.prog 5 #[ptr p, ptr t, .agg #[nu 4, nu 1099511627776, nu 0, nu 0, nu 0]] wx fun e w' => e = .returned (.bool true) ∧ Hid (∃ F' G' L', Bd R t w w3 w' p t F G F' G' L' L')) := fun wx hq => cDo.out wx ⟨4, 1099511627776, 0, 0, 0⟩ (by unfold Xact.fits I64e; dsimp only; omega) hq
  clear hbd hdis HBD
  go_wp2_with fail
  rw [HW3.out, HT.out]
  go_loopw [6] (fun iv wr => ∃ (k : Nat), k ≤ m ∧ iv = nun k ∧ Hid (∃ F' G' L', Bd R t w w3 wr p t F G F' G' L' L')) (fun iv _ => m - (intOf iv).toNat)
  case atStart => exact ⟨0, Nat.zero_le _, rfl, HB0⟩
  case round =>
    clear HB0
    obtain ⟨k, hk, rfl, HS⟩ := hrel
    by_cases hlt : k < m
    · have hkI : (k : Int) < (m : Int) := by omega
      have hk0 : (0 : Int) ≤ (k : Int) := by omega
      obtain ⟨gv, ov, rfl, hgl, hcl⟩ := HCL.out (by rw [HM.out]; omega)
      obtain ⟨x, hx⟩ : ∃ x, L[k]? = some x := ⟨_, List.getElem?_eq_getElem (by rw [HM.out]; exact hlt)⟩
      have hbr : Below w.heap.size w wr := by
        obtain ⟨F', G', L', g⟩ := HS.out
        exact g.xe.bel
      have HXR : Hid (wr.rangeAt gv (ov + k * 5) x.cells) := range_belE (hcl k x hx) hbr hgl
      have hfx := HF.out x (List.mem_of_getElem? hx)
      have cA := Hid.mk' (cDo.out wr x hfx HS)
      obtain ⟨xk, xa, xn, xs, xb⟩ := x
      dsimp only at cA HXR
      clear hcl hx hbr hfx hgl
      go_wp2_with (first | (refine wpList_load_mid rfl 33 _ rfl gv (ov + k * 5) rfl [nu xk, nu xa, nu xn, nu xs, nu xb] _ HXR.out Tryd.underlying33 rfl size_xact ?_) | fail)
      refine cA.out.mono ?_
      rintro e w4 ⟨rfl, HQ4⟩
      have cB := Hid.mk' (cN3.out w4 HQ4)
      clear cA HXR
      go_wp2_with fail
      refine cB.out.mono ?_
      rintro e w5 ⟨rfl, HQ5⟩
      clear cB HQ4
      go_wp2
      go_roundw
      case rel => exact ⟨k + 1, by omega, by go_num, HQ5⟩
      case measure => simp [intOf]; omega
    · have hkI : ¬ (k : Int) < (m : Int) := by omega
      have cO : Hid (Calls Tryd.prog 6 #[ptr po] wr fun e w' => e = .returned (.tuple #[nu 0, .bool false]) ∧ Hid (∃ F' G' L', Bd R t w w3 w' p t F G F' G' L' L')) := by
        obtain ⟨F', G', L', g⟩ := HS.out
        have hro : R wr po Fo [] := C.keep HR3.out g.kp (fun k hk e => e.elim (HDIS.out k hk).1 (HDIS.out k hk).2)
        refine (C.next wr po Fo [] hro).mono ?_
        rintro e w' ⟨rfl, hb⟩
        exact ⟨rfl, F', G', L', g.below C hb⟩
      clear HS hlt
      go_wp2_with fail
      refine cO.out.mono ?_
      rintro e w4 ⟨rfl, HQ4⟩
      have cB := Hid.mk' (cN4.out w4 HQ4)
      clear cO HQ4
      go_wp2_with fail
      refine cB.out.mono ?_
      rintro e w5 ⟨rfl, HQ5⟩
      have HBE : Hid (Below w.heap.size w w5) := by
        obtain ⟨F', G', L', g⟩ := HQ5.out
        exact g.xe.bel
      clear cB HQ5
      go_wp2
      go_ret
      exact ⟨rfl, HBE.out⟩
end Ex
end Go.Proofs.YthjdpfmnbmnbhaaDoor
