/- The program's Save. -/
import Derived.Test.YtlgjnefieflmbaaDoorAreH
namespace Go.Proofs.YtlgjnefieflmbaaDoor
set_option linter.ambiguousOpen false
open Go.RowKit
namespace Ae
open Sm Ft Dk Pk
set_option linter.unusedSimpArgs false
set_option linter.unusedVariables false

theorem leftP_below {Rep : World → Nat → (Nat → Prop) → Dsk → Prop} {w a b : World} {p : Nat} {F : Nat → Prop} {d : Dsk} (hb : Below w.heap.size w a) (h : LeftP Rep a b p F d) : LeftP Rep w b p F d := by
  obtain ⟨G, h1, h3, h4⟩ := h
  exact ⟨G, h1, (Keep.of_below hb).trans h3 (fun _ _ h => h), fun k hk => by
    rcases h4 k hk with h5 | h5
    · exact .inl h5
    · exact .inr (Nat.le_trans hb.size h5)⟩

theorem leftP_same {Rep : World → Nat → (Nat → Prop) → Dsk → Prop} (H : Says Rep) {w w' : World} {p : Nat} {F : Nat → Prop} {d : Dsk} (hR : Rep w p F d) (hb : Below w.heap.size w w') : LeftP Rep w w' p F d :=
  ⟨F, H.keep hR (Keep.of_below (F := fun _ => False) hb) (fun _ _ h => h), Keep.of_below hb, Goes.refl _ _⟩

set_option maxRecDepth 100000 in
set_option maxHeartbeats 4000000 in
theorem save_any {Rep : World → Nat → (Nat → Prop) → Dsk → Prop} (H : Says Rep) : SaveC Rep := by
  intro w p F d a n ep v x hR hN ht ha hn hep hv hz
  show Calls _ _ _ _ fun e w' => e = .returned (errE (save d a n ep x).1) ∧ LeftP Rep w w' p F (save d a n ep x).2
  have c1 := Hid.mk' (mayBe_p H w p F d a n hR ⟨hN.n1, hN.n2⟩ ha hn)
  have HH := Hid.mk' H
  have HR := Hid.mk' hR
  have HV := Hid.mk' hv
  have hdn := hN.n2
  obtain ⟨N, hNN⟩ : ∃ N, x.length = N := ⟨_, rfl⟩
  obtain ⟨av, cv, hve, hc1, hc2, _⟩ := hv w (Keep.refl _ _)
  rw [hNN] at hve hc1
  unfold maxLen at hc2
  subst hve
  cases hm : may d a n with
  | false =>
    rw [hm] at c1
    have hA : Hid (save d a n ep x = (1, d)) := by
      show _ = _
      rw [save, if_neg (by rw [hm]; decide)]
    clear hR hv hm H hz hN
    go_enter Tryd.func23, Tryd.ntmps23
    go_wp2_with fail
    refine c1.out.mono ?_
    rintro e w1 ⟨rfl, hb⟩
    have HB := Hid.mk' hb
    clear hb c1
    go_wp2
    go_ret
    rw [hA.out]
    exact ⟨rfl, leftP_same HH.out HR.out HB.out⟩
  | true =>
    rw [hm] at c1
    obtain ⟨m1, m2, m3⟩ := may_out hm
    by_cases hlen : n * 256 < (N : Int)
    · have hA : Hid (save d a n ep x = (3, d)) := by
        show _ = _
        rw [save, if_pos hm, hNN, if_pos hlen]
      clear hR hv hm H hz hN
      go_enter Tryd.func23, Tryd.ntmps23
      go_wp2_with fail
      refine c1.out.mono ?_
      rintro e w1 ⟨rfl, hb⟩
      have HB := Hid.mk' hb
      clear hb c1
      go_wp2
      go_ret
      rw [hA.out]
      exact ⟨rfl, leftP_same HH.out HR.out HB.out⟩
    · have c2 : Hid (∀ wx, Calls Tryd.prog 45 #[nu a, nu n, .int .u32 (ep : Int)] wx fun e w' => e = .returned (nu (fst a n ep)) ∧ Below wx.heap.size wx w') := fun wx => first_p a n ep wx (by omega) (by omega) hep
      obtain ⟨b, hb⟩ : ∃ b : Int, fst a n ep = b := ⟨_, rfl⟩
      have hpf := pcs_fit x n (by rw [hNN]; exact hlen)
      obtain ⟨f1, f2⟩ := fst_in a n ep (pcs x).length m2 hpf
      rw [hb] at c2 f1 f2
      obtain ⟨U, hU⟩ : ∃ U, ups b (pcs x) d = U := ⟨_, rfl⟩
      have hA : Hid (save d a n ep x = if U.1 = 0 then (wrN U.2 a (hdr ep x), wrD U.2 a (hdr ep x)) else U) := by
        show _ = _
        rw [save, if_pos hm, hNN, if_neg hlen, hb, hU]
      have hpl : (pcs x).length ≤ 4096 := by omega
      have hut := (ups_n b (pcs x) d).2
      rw [hU] at hut
      have cL : Hid (∀ wx, Below w.heap.size w wx → Calls Tryd.prog 44 #[ptr p, nu b, .slice av N cv] wx fun e w' => e = .returned (errE U.1) ∧ LeftP Rep w w' p F U.2) := fun wx hx => by
        have := lay_p HH.out wx p F d b _ x (HH.out.keep HR.out (Keep.of_below (F := fun _ => False) hx) (fun _ _ h => h)) ht (by omega) (by omega) (fun w' hk => HV.out w' ((Keep.of_below hx).trans hk (fun _ _ h => h)))
        rw [hU] at this
        refine this.mono ?_
        rintro e w' ⟨rfl, hl⟩
        exact ⟨rfl, leftP_below hx hl⟩
      have cH : Hid (∀ wx, Keep F w wx → Calls Tryd.prog 46 #[.int .u32 (ep : Int), .slice av N cv] wx fun e w' => e = .returned (.string (tx (hdr ep x))) ∧ Below wx.heap.size wx w') := fun wx hk => header_p ep _ x wx (HV.out wx hk) hep (by omega)
      have hhl := hdr_len ep x
      have cW : Hid (∀ wx w4, LeftP Rep w wx p F U.2 → Below wx.heap.size wx w4 → Calls Tryd.prog 11 #[ptr p, nu a, .string (tx (hdr ep x))] w4 fun e w' => e = .returned (errE (wrN U.2 a (hdr ep x))) ∧ LeftP Rep w w' p F (wrD U.2 a (hdr ep x))) := fun wx w4 hl hx => by
        obtain ⟨G, g1, g2, g3⟩ := hl
        refine (HH.out.write w4 p G U.2 a (hdr ep x) (HH.out.keep g1 (Keep.of_below (F := fun _ => False) hx) (fun _ _ h => h)) (by omega) (by omega) (by rw [hhl]; decide)).mono ?_
        rintro e w' ⟨rfl, G', r1, r2, r3⟩
        exact ⟨rfl, G', r1, keep_goes g2 g3 ((Keep.of_below hx).trans r2 (fun _ _ h => h)), goes_trans g3 (fun k hk => by
          rcases r3 k hk with h | h
          · exact .inl h
          · exact .inr (Nat.le_trans hx.size h)) g2.size⟩
      obtain ⟨f, hf⟩ : ∃ f, tx (hdr ep x) = f := ⟨_, rfl⟩
      rw [hf] at cH cW
      clear hR hv hm hb H hz hN hU hut hf hhl
      by_cases h0 : U.1 = 0
      · rw [if_pos h0] at hA
        rw [h0, show errE 0 = .nilIface from rfl] at cL
        go_enter Tryd.func23, Tryd.ntmps23
        go_wp2_with fail
        refine c1.out.mono ?_
        rintro e w1 ⟨rfl, hb1⟩
        have HB1 := Hid.mk' hb1
        clear hb1 c1
        go_wp2_with fail
        refine (c2.out _).mono ?_
        rintro e w2 ⟨rfl, hb2⟩
        have HB2 : Hid (Below w.heap.size w w2) := HB1.out.trans (hb2.mono HB1.out.size)
        clear hb2 c2
        go_wp2_with fail
        refine (cL.out _ HB2.out).mono ?_
        rintro e w3 ⟨rfl, hl⟩
        have HL := Hid.mk' hl
        have C4 := Hid.mk' (cH.out w3 (by obtain ⟨_, _, hk, _⟩ := hl; exact hk))
        clear hl cL cH
        go_wp2_with fail
        refine C4.out.mono ?_
        rintro e w4 ⟨rfl, hb4⟩
        have C5 := Hid.mk' (cW.out w3 w4 HL.out hb4)
        clear hb4 C4 cW
        go_wp2_with fail
        refine C5.out.mono ?_
        rintro e w5 ⟨rfl, hl⟩
        have HL5 := Hid.mk' hl
        clear hl C5
        go_wp2
        go_ret
        rw [hA.out]
        exact ⟨rfl, HL5.out⟩
      · rw [if_neg h0] at hA
        obtain ⟨c', hc'⟩ : ∃ c', U.1 = c' + 1 := ⟨U.1 - 1, by omega⟩
        obtain ⟨z, hz⟩ : ∃ z : Int, ((c' + 1 : Nat) : Int) = z := ⟨_, rfl⟩
        have HZ : Hid (errE U.1 = noE z) := by
          show _ = _
          rw [hc', ← hz]
          rfl
        rw [HZ.out] at cL
        clear hc' hz h0
        go_enter Tryd.func23, Tryd.ntmps23
        go_wp2_with fail
        refine c1.out.mono ?_
        rintro e w1 ⟨rfl, hb1⟩
        have HB1 := Hid.mk' hb1
        clear hb1 c1
        go_wp2_with fail
        refine (c2.out _).mono ?_
        rintro e w2 ⟨rfl, hb2⟩
        have HB2 : Hid (Below w.heap.size w w2) := HB1.out.trans (hb2.mono HB1.out.size)
        clear hb2 c2
        go_wp2_with fail
        refine (cL.out _ HB2.out).mono ?_
        rintro e w3 ⟨rfl, hl⟩
        have HL := Hid.mk' hl
        clear hl cL cH cW
        go_wp2
        go_ret
        rw [hA.out, HZ.out]
        exact ⟨rfl, HL.out⟩
end Ae
end Go.Proofs.YtlgjnefieflmbaaDoor
