import Derived.Test.YthabnombfbehkaaKnM
import Derived.Test.YthabnombfbehkaaLoopM
import Derived.Deep.CutBlock
/- What is put into the garbage, and all below it, is freed, each once: SweepOnce out of what the program's calls must answer. -/
namespace Go.Proofs.Ythabnombfbehkaa
set_option linter.ambiguousOpen false
open Go.RowKit
namespace Sw
open An Rg Ft Lv
set_option linter.unusedSimpArgs false
set_option linter.unusedVariables false
attribute [local go_sem] Oper.semAt_some

/-- An array of no dead ones, as the walk spells it. -/
@[reducible] def deadA : Array Value := #[.bool false, .bool false, .bool false, .bool false, .bool false, .bool false, .bool false, .bool false, .bool false, .bool false, .bool false, .bool false, .bool false, .bool false, .bool false, .bool false, .bool false, .bool false, .bool false, .bool false, .bool false, .bool false, .bool false, .bool false, .bool false, .bool false, .bool false, .bool false, .bool false, .bool false, .bool false, .bool false]

theorem deadA_eq : ((List.range 32).map (fun _ => Value.bool false)).toArray = deadA := by rfl

theorem cnt_false (n : Nat) : cnt n (fun _ => false) = 0 := by
  unfold cnt
  simp

/-- The numbers that lie there. -/
theorem rdU_at {w w' : World} {av : Option Addr} {cv : Nat} {l : List Int} (h : RdU w (.slice av l.length cv) l) (hb : Below w.heap.size w w') (i : Nat) (hi : i < l.length) : ∃ g o, av = some ⟨g, o, none⟩ ∧ w'.cell? ⟨g, o + i, none⟩ = some (nu (l.getD i 0)) := by
  obtain ⟨a, c, e, _, _, h3⟩ := h
  simp only [Value.slice.injEq, true_and] at e
  obtain ⟨rfl, rfl⟩ := e
  obtain ⟨g, o, e1, e2, e3⟩ := h3 (by omega)
  refine ⟨g, o, e1, (hb.cell (p := ⟨g, o + i, none⟩) e2).trans (e3 i _ ?_)⟩
  rw [List.getD_eq_getElem?_getD, List.getElem?_eq_getElem hi]
  rfl

set_option maxRecDepth 1000000 in
set_option maxHeartbeats 16000000 in
theorem sweepOnce_yes {Rep : World → Nat → (Nat → Prop) → Arn → Prop} {R : RepTy} {T : R3Ty} (CN : NewC Rep) (C : OnceC Rep R T) (v : Value) (l : List Int) (v2 : Value) (cs : List Int) (w0 : World) (hR : RdU w0 v l) (hI : ∀ x ∈ l, I64 x) (hR2 : RdU w0 v2 cs) (hI2 : ∀ x ∈ cs, I64 x) :
    Calls Try.prog 3 #[v, v2] w0 fun e w' => e = .returned (.bool true) ∧ Below w0.heap.size w0 w' := by
  obtain ⟨i0, ji, hz0, hz1, hz2⟩ := info_parts info_int
  obtain ⟨av, cv, rfl, hc1, hc2, hxa⟩ := id hR
  clear hxa
  obtain ⟨bv, dv, rfl, hd1, hd2, hxb⟩ := id hR2
  clear hxb
  obtain ⟨N2, hN2⟩ : ∃ N2, cs.length = N2 := ⟨_, rfl⟩
  have HN2 := Hid.mk' hN2
  have HR2 := Hid.mk' hR2
  have HI2 : Hid (∀ i, i < N2 → I64 (cs.getD i 0)) := fun i hi => by
    rw [List.getD_eq_getElem?_getD, List.getElem?_eq_getElem (by omega)]
    exact hI2 _ (List.getElem_mem _)
  obtain ⟨N1, hN1⟩ : ∃ N1, l.length = N1 := ⟨_, rfl⟩
  have HC := Hid.mk' C
  have c1 := Hid.mk' (works_any CN C w0)
  have cH : Hid (∀ wx, Below w0.heap.size w0 wx → Calls Try.prog 5 #[.slice av l.length cv] wx fun e w' => ∃ p q a c n, e = .returned (.tuple #[ptr p, ptr q, .slice a n c, .bool true]) ∧ Hid (∃ up : List Int, up.length = n ∧ Hu R wx w' p q up (.slice a n c))) := fun wx hb => by
    refine (hung_any CN C.toHungC _ l wx (hR.below hb) hI).mono ?_
    rintro e w' ⟨p, q, a, c, n, rfl, hQ⟩
    exact ⟨p, q, a, c, n, rfl, upP l n, upP_len l n, hQ.out.2⟩
  rw [hN1] at cH ⊢
  rw [hN2] at hd1 ⊢
  unfold maxLen at hc2 hd2
  have hdI : (dv : Int) ≤ 9223372036854775807 := by omega
  clear hR hI hR2 hI2 CN C hN1 hN2 hc1 hc2
  refine (callsIn_wide (n := 8)).1 ?_
  refine callsIn_of_wp_marks Try.func3 rfl trivial ?_ rfl
  refine wpIn_wide.2 ?_
  simp only [Try.ntmps3, List.size_toArray, List.length_cons, List.length_nil, Nat.reduceAdd, Nat.reduceSub, Array.replicate_succ, Array.replicate_zero, List.push_toArray, List.append_toArray, List.nil_append, List.cons_append]
  go_wp2_with fail
  refine c1.out.mono ?_
  rintro e w ⟨rfl, hb1⟩
  have HB := Hid.mk' hb1
  have c2 := Hid.mk' (cH.out w hb1)
  clear hb1 c1 cH
  go_wp2_with fail
  refine c2.out.mono ?_
  rintro e w2 ⟨p, q, a, c, n, rfl, hQ2⟩
  obtain ⟨up, hul, S0, m0, t0, hh, hm, hg, ho, hu, h32, hxc⟩ := hQ2.out
  clear hxc
  have c3 := Hid.mk' (hh.newG HC.out)
  have HSG := Hid.mk' (Sg.start hg)
  have HO2 := Hid.mk' ho
  have HUP := Hid.mk' hu
  have HUL := Hid.mk' hul
  have hn32 : n ≤ 32 := by omega
  have hm0 : m0 ≤ 288 := by omega
  obtain ⟨ua, uc, eU, huc1, huc2, hxd⟩ := Nm.own_shape (by rw [hul] at ho; exact ho : w2.ownsRow w.heap.size 3 1 (.slice a n c) n (up.map nu))
  obtain ⟨rfl, rfl⟩ : a = ua ∧ c = uc := by simpa using eU
  unfold maxLen at huc2
  have hucI : (c : Int) ≤ 9223372036854775807 := by omega
  clear hQ2 hh hm hg ho hu h32 c2 eU hul hxd
  go_wp2_with fail
  refine c3.out.mono ?_
  rintro e w3 ⟨r, rfl, hQ3⟩
  clear c3
  go_upto_region 10 with fail
  obtain ⟨Db, hDb⟩ : ∃ Db, w3.heap.size = Db := ⟨_, rfl⟩
  have hdz := dz_new w3
  rw [deadA_eq, hDb] at hdz
  have hb34 : Below w3.heap.size w3 (w3.alloc (.cells deadA 30)) := (Below.refl _ _).alloc (Nat.le_refl _) _
  have hs34 : (w3.alloc (.cells deadA 30)).heap.size = w3.heap.size + 1 := by simp
  have hw3 := hQ3.out.1.bel.size
  obtain ⟨W4, hW4⟩ : ∃ W4, w3.alloc (.cells deadA 30) = W4 := ⟨_, rfl⟩
  rw [hW4] at hdz hb34 hs34
  have HF0 : Hid (Ou T w W4 p q r up (.slice a n c) Db [] m0 (fun _ => false) S0 t0) := by
    refine ⟨hQ3.out.1.more (fun q l => HC.out.keep3 q r l (-1)) hb34 (fun b hb => ?_), HSG.out, hdz, ?_, fun e => ?_, by omega⟩
    · rcases hb with hb | rfl
      · exact .inl hb
      · exact .inr ⟨by omega, by omega⟩
    · exact (Keep.of_below (F := fun _ => False) (hQ3.out.2.trans (hb34.mono hQ3.out.2.size))).own HO2.out (fun _ _ h => h)
    · have h1 := (HO2.out.lt Db e).2
      have h2 := hQ3.out.2.size
      omega
  have HBW : Hid (w.heap.size ≤ Db) := by show _ ≤ _; omega
  show Code.wp Try.prog _ _ _ (w3.alloc (.cells deadA 30))
  rw [hW4, hDb]
  clear hQ3 hdz hb34 hs34 hw3 hW4 HSG HO2 hDb
  go_upto_block 0 with fail
  go_cut [11, 12, 13, 14] from 44 to 98 (fun nv iv kv jv wr => ∃ nn : Nat, nn ≤ 32 ∧ nv = nun nn ∧ Hid (∃ Q m f S tl, m ≤ 800 ∧ Ou T w wr p q r up (.slice a n c) Db Q m f S tl ∧ nn = cnt n f ∧ ∀ t, t < n → f t = deadB up Q t))
  case first =>
    have cK : Hid (∀ (x : Int) (wx : World), 0 < n → I64 x → Calls Try.prog 7 #[nu x, nun n] wx fun e w' => e = .returned (nu (x % (n : Int))) ∧ w' = wx) := fun x wx h0 hx => pickG x n wx h0 (by omega) hx
    go_wp2_with fail
    go_loopw [11, 12, 13, 14] (fun nv iv kv jv wr => ∃ nn i : Nat, i ≤ N2 ∧ i ≤ 40 ∧ nn ≤ 32 ∧ nv = nun nn ∧ iv = nun i ∧ Hid (∃ Q m f S tl, m ≤ 300 + 11 * i ∧ Ou T w wr p q r up (.slice a n c) Db Q m f S tl ∧ nn = cnt n f ∧ ∀ t, t < n → f t = deadB up Q t)) (fun _ iv _ _ _ => 41 - (intOf iv).toNat)
    case atStart => exact ⟨0, 0, Nat.zero_le _, by omega, by omega, rfl, rfl, [], m0, _, S0, t0, by omega, HF0.out, (cnt_false n).symm, fun t ht => by simp [deadB]⟩
    case round =>
      clear HF0
      obtain ⟨nn, i, hi, hi40, hnn, rfl, rfl, HR⟩ := hrel
      have HX : Hid (∃ Q m f S tl, m ≤ 800 ∧ Ou T w wr p q r up (.slice a n c) Db Q m f S tl ∧ nn = cnt n f ∧ ∀ t, t < n → f t = deadB up Q t) := by
        obtain ⟨Q, m, f, S, tl, hm, rest⟩ := HR.out
        exact ⟨Q, m, f, S, tl, by omega, rest⟩
      by_cases h1 : i < N2
      · have h1I : (i : Int) < (N2 : Int) := by omega
        by_cases h2 : i < 40
        · have h2I : (i : Int) < 40 := by omega
          by_cases h3 : 0 < n
          · have h3I : (0 : Int) < (n : Int) := by omega
            obtain ⟨Q, m, f, S, tl, hm, hO, hcn, hf⟩ := HR.out
            obtain ⟨gb, ob, rfl, hcx⟩ := rdU_at HR2.out (HB.out.trans (hO.hs.bel.mono HB.out.size)) i (by rw [HN2.out]; exact h1)
            obtain ⟨x, hx⟩ : ∃ x, cs.getD i 0 = x := ⟨_, rfl⟩
            have hxI := HI2.out i h1
            rw [hx] at hcx hxI
            obtain ⟨k, hk, hkn⟩ : ∃ k : Nat, x % (n : Int) = (k : Int) ∧ k < n := ⟨(x % (n : Int)).toNat, by have := Int.emod_nonneg x (b := (n : Int)) (by omega); omega, by have := Int.emod_nonneg x (b := (n : Int)) (by omega); have := Int.emod_lt_of_pos x (b := (n : Int)) (by omega); omega⟩
            have c5 := Hid.mk' (fun wx => cK.out x wx h3 hxI)
            rw [hk] at c5
            have hk0 : (0 : Int) ≤ (k : Int) := by omega
            have hkI : (k : Int) < 32 := by omega
            have hi0 : (0 : Int) ≤ (i : Int) := by omega
            have hdc := hO.dz.cell (j := k) (by omega)
            have HO := Hid.mk' hO
            have HCN := Hid.mk' hcn
            have HFF := Hid.mk' hf
            clear hx hxI hk HR cK hO hcn hf
            cases hfk : f k with
            | true =>
              rw [hfk] at hdc
              clear hfk
              go_wp2_with (first | (go_at_call 7; refine (c5.out _).mono ?_; rintro e w9 ⟨rfl, hw9⟩; subst w9) | fail)
              go_roundw
              case rel => exact ⟨nn, i + 1, by omega, by omega, hnn, rfl, by go_num, Q, m, f, S, tl, by omega, HO.out, HCN.out, HFF.out⟩
              case measure => simp [intOf]; omega
            | false =>
              rw [hfk] at hdc
              have hkQ : k ∉ Q := fun e => by
                have h1 := HFF.out k hkn
                rw [dead_self HUP.out (by rw [HUL.out]; exact hkn) e, hfk] at h1
                cases h1
              have c6 := Hid.mk' (HO.out.cut HC.out HUP.out (by omega) (c := k) (by rw [HUL.out]; exact hkn) hkQ (by rw [HUL.out]; exact hn32))
              have HK : Hid (m + 11 ≤ 300 + 11 * (i + 1)) := by show _ ≤ _; omega
              clear hfk hkQ HO hm
              go_wp2_with (first | (go_at_call 7; refine (c5.out _).mono ?_; rintro e w9 ⟨rfl, hw9⟩; subst w9) | fail)
              refine c6.out.mono ?_
              rintro e w6 ⟨rfl, hQ6⟩
              clear c6 hdc hcx
              go_wp2_with fail
              refine hQ6.out.mono ?_
              rintro e w7 ⟨rfl, hQ7⟩
              clear hQ6
              obtain ⟨m', S', tl', hm', hO7⟩ := hQ7.out
              have HF7 : Hid (∃ f, Ou T w w7 p q r up (.slice a n c) Db (Q ++ [k]) m' f S' tl' ∧ nn = cnt n f ∧ ∀ t, t < n → f t = (deadB up Q t || (decide (t < 0) && ancL up k t))) := ⟨f, hO7, HCN.out, fun t ht => by rw [HFF.out t ht]; simp⟩
              have HM : Hid (m' ≤ 300 + 11 * (i + 1)) := Nat.le_trans hm' HK.out
              clear hQ7 hO7 hm' HK HCN HFF c5
              go_wp2_with fail
              rename World => w8
              go_loopw [11, 14] (fun nv jv wr => ∃ nn j : Nat, j ≤ n ∧ nn ≤ 32 ∧ nv = nun nn ∧ jv = nun j ∧ Hid (∃ f, Ou T w wr p q r up (.slice a n c) Db (Q ++ [k]) m' f S' tl' ∧ nn = cnt n f ∧ ∀ t, t < n → f t = (deadB up Q t || (decide (t < j) && ancL up k t)))) (fun _ jv _ => n - (intOf jv).toNat)
              case atStart => exact ⟨nn, 0, Nat.zero_le _, hnn, rfl, rfl, HF7.out⟩
              case round =>
                clear HF7
                obtain ⟨nn, j, hj, hnn, rfl, rfl, HR⟩ := hrel
                obtain ⟨f, hO, hcn, hf⟩ := HR.out
                clear HR
                by_cases hjn : j < n
                · have hjI : (j : Int) < (n : Int) := by omega
                  have hj32 : (j : Int) < 32 := by omega
                  have hj0 : (0 : Int) ≤ (j : Int) := by omega
                  have hdc := hO.dz.cell (j := j) (by omega)
                  have hfj := hf j hjn
                  have HO := Hid.mk' hO
                  have HCN := Hid.mk' hcn
                  have HFF := Hid.mk' hf
                  clear hcn hf
                  cases hfk : f j with
                  | true =>
                    rw [hfk] at hdc hfj
                    have hdj : deadB up Q j = true := by simpa using hfj.symm
                    have HF2 : Hid (∀ t, t < n → f t = (deadB up Q t || (decide (t < j + 1) && ancL up k t))) := fun t ht => by
                      by_cases e : t = j
                      · subst e
                        rw [hfk, hdj]
                        rfl
                      · rw [HFF.out t ht]
                        have : decide (t < j + 1) = decide (t < j) := by
                          congr 1
                          apply propext
                          omega
                        rw [this]
                    clear hO hfk hfj hdj HFF
                    go_wp2
                    go_roundw
                    case rel => exact ⟨nn, j + 1, by omega, hnn, rfl, by go_num, f, HO.out, HCN.out, HF2.out⟩
                    case measure => simp [intOf]; omega
                  | false =>
                    rw [hfk] at hdc hfj
                    have hdj : deadB up Q j = false := by simpa using hfj.symm
                    have hfz := hO.dz.frozen j
                    have c8 := Hid.mk' (above_any (.slice a n c) up k j wr (own_rdU hO.uo) HUP.out (by rw [HUL.out]; exact hn32) (by rw [HUL.out]; omega))
                    have HOS := Hid.mk' (hO.set HC.out j true)
                    obtain ⟨ab, hab⟩ : ∃ ab, ancB up k (up.length + 1) j = ab := ⟨_, rfl⟩
                    have HAB : Hid (ancL up k j = ab) := hab
                    rw [hab] at c8
                    have HDJ := Hid.mk' hdj
                    have HFK := Hid.mk' hfk
                    clear hO hfk hfj hdj hab
                    cases ab with
                    | true =>
                      have HF2 : Hid (∀ t, t < n → (if t = j then true else f t) = (deadB up Q t || (decide (t < j + 1) && ancL up k t))) := fun t ht => by
                        by_cases e : t = j
                        · subst e
                          rw [if_pos rfl, HAB.out]
                          simp
                        · rw [if_neg e, HFF.out t ht]
                          have : decide (t < j + 1) = decide (t < j) := by
                            congr 1
                            apply propext
                            omega
                          rw [this]
                      have HC2 : Hid (nn + 1 = cnt n (fun t => if t = j then true else f t)) := by
                        rw [cnt_set f HFK.out n hjn, ← HCN.out]
                        rfl
                      have hnn2 : nn + 1 ≤ 32 := by
                        have := cnt_le n (fun t => if t = j then true else f t)
                        rw [← HC2.out] at this
                        omega
                      clear HAB HFF HCN HFK HDJ HO
                      go_wp2_with (first | (go_at_call 10; refine (c8.out).mono ?_; rintro e w9 ⟨rfl, hw9⟩; subst w9) | fail)
                      go_roundw
                      case rel => exact ⟨nn + 1, j + 1, by omega, hnn2, by go_num, by go_num, _, HOS.out, HC2.out, HF2.out⟩
                      case measure => simp [intOf]; omega
                    | false =>
                      have HF2 : Hid (∀ t, t < n → f t = (deadB up Q t || (decide (t < j + 1) && ancL up k t))) := fun t ht => by
                        by_cases e : t = j
                        · subst e
                          rw [HFK.out, HDJ.out, HAB.out]
                          simp
                        · rw [HFF.out t ht]
                          have : decide (t < j + 1) = decide (t < j) := by
                            congr 1
                            apply propext
                            omega
                          rw [this]
                      clear HAB HFF HFK HDJ HOS
                      go_wp2_with (first | (go_at_call 10; refine (c8.out).mono ?_; rintro e w9 ⟨rfl, hw9⟩; subst w9) | fail)
                      go_roundw
                      case rel => exact ⟨nn, j + 1, by omega, hnn, rfl, by go_num, f, HO.out, HCN.out, HF2.out⟩
                      case measure => simp [intOf]; omega
                · have hjI : ¬ (j : Int) < (n : Int) := by omega
                  have HO := Hid.mk' hO
                  have HCN := Hid.mk' hcn
                  have HF2 : Hid (∀ t, t < n → f t = deadB up (Q ++ [k]) t) := fun t ht => by
                    rw [hf t ht, dead_snoc, decide_eq_true (show t < j by omega)]
                    rfl
                  clear hO hcn hf
                  go_wp2
                  go_roundw
                  case rel => exact ⟨nn, i + 1, by omega, by omega, hnn, rfl, by go_num, Q ++ [k], m', f, S', tl', HM.out, HO.out, HCN.out, HF2.out⟩
                  case measure => simp [intOf]; omega
          · have h3I : ¬ (0 : Int) < (n : Int) := by omega
            go_wp2
            go_meet
            case rel => exact ⟨nn, hnn, rfl, HX⟩
        · have h2I : ¬ (i : Int) < 40 := by omega
          go_wp2
          go_meet
          case rel => exact ⟨nn, hnn, rfl, HX⟩
      · have h1I : ¬ (i : Int) < (N2 : Int) := by omega
        go_wp2
        go_meet
        case rel => exact ⟨nn, hnn, rfl, HX⟩
  case rest =>
    clear HF0
    obtain ⟨nn, hnn, rfl, HR⟩ := hcut
    obtain ⟨Q, m, f, S, tl, hm, hO, hcn, hf⟩ := HR.out
    clear HR
    obtain ⟨W, hFp, hall, hW⟩ := Fp.start hO.sg HUP.out
    have hWn : W.length = nn := by
      rw [hcn, ← order_len hFp.nd hFp.wl hW]
      unfold cnt
      rw [HUL.out]
      exact congrArg List.length (List.filter_congr (fun t ht => (hf t (List.mem_range.1 ht)).symm))
    have hcw : nn = cnt n (fun t => decide (t ∈ W)) := by
      rw [hcn]
      refine cnt_congr (fun t ht => ?_)
      rw [hf t ht, Bool.eq_iff_iff, decide_eq_true_iff]
      exact (hW t (by rw [HUL.out]; exact ht)).symm
    have HCW := Hid.mk' hcw
    have hokQ : okL (lastI Q) := by
      by_cases hQ : Q = []
      · subst hQ
        exact .inl rfl
      · exact .inr (lastI_there hO.sg.rq hQ)
    have c9 : Hid (Calls Try.prog 11 #[ptr r] wc fun e w' => ∃ ao co, e = .returned (.slice ao nn co) ∧ Hid (nn ≤ co ∧ co ≤ 9223372036854775807 ∧ Rf.Open w.heap.size [] w' ∧ Below w.heap.size w w' ∧ S3 T w w' p q r up (.slice a n c) Db W (.slice ao nn co) (fun j => kidsQ up j Q) [] 0 m S Q f tl)) := by
      have := hO.hs.all3 HC.out hokQ hall
      rw [hWn] at this
      refine this.mono ?_
      rintro e w' ⟨ao, co, rfl, hQ⟩
      obtain ⟨g1, g2, g3⟩ := hQ.out
      have hwc := hO.hs.bel.size
      obtain ⟨a9, c9, e9, h91, h92, _⟩ := Nm.own_shape g2
      obtain ⟨rfl, rfl⟩ : ao = a9 ∧ co = c9 := by simpa using e9
      have hblk : ∀ b, b < wc.heap.size → w'.heap[b]? = wc.heap[b]? := fun b hb => g3.block b hb
      refine ⟨ao, co, rfl, h91, by unfold maxLen at h92; omega, ⟨List.nodup_nil, fun D hD => by simp at hD⟩, g1.bel, ⟨hO.hs.more (fun q l => HC.out.keep3 q r l (lastI Q)) g3 (fun b hb => ?_), ⟨(hblk Db hO.dz.lt).trans hO.dz, (Keep.of_below (F := fun _ => False) g3).own hO.uo (fun _ _ h => h), ?_, hO.ne, fun e => ?_, hO.lo⟩, hFp, fun t ht => ?_, ⟨List.nodup_nil, fun D hD => by simp at hD⟩⟩⟩
      · rcases hb with hb | hb
        · rcases hb with hb | hb
          · exact .inl hb
          · exact .inr (g2.lt b hb)
        · simp at hb
      · rw [hWn]
        exact own_monoA g2 hwc
      · have h1 := (g2.lt Db e).1
        have h2 := hO.dz.lt
        omega
      · rw [List.drop_zero, hW t ht, hf t (by rw [← HUL.out]; exact ht)]
    have HWN := Hid.mk' hWn
    have HWD : Hid (∀ j, j < n → (j ∈ W ↔ deadB up Q j = true)) := fun j hj => hW j (by rw [HUL.out]; exact hj)
    clear hO hcn hf hFp hall hW hWn hokQ hcw
    go_wp2_with fail
    refine c9.out.mono ?_
    rintro e w9 ⟨ao, co, rfl, hQ9⟩
    obtain ⟨hco1, hco2, _, hb9, hS9⟩ := hQ9.out
    have HS9 := Hid.mk' hS9
    have HB9 := Hid.mk' hb9
    have hcoI : (co : Int) ≤ 9223372036854775807 := by omega
    have hnnI : ((nn : Int) == (nn : Int)) = true := by simp
    clear hQ9 c9 hS9 hb9
    go_wp2_with fail
    refine Lm.wp_loopT (fun z => #[.slice av N1 cv, .slice bv N2 dv, undef, undef, z 4, ptr p, ptr q, .slice a n c, .bool true, ptr r, .pointer (some ⟨Db, 0, none⟩), nun nn, u12, u13, u14, .slice ao nn co, .int .i64 (32 - (n : Int)), z 17, z 18, z 19, z 20, z 21, z 22, undef, undef, undef, undef, undef, undef, .bool true, .bool false, .tuple #[ptr p, ptr q, .slice a n c, .bool true], .slice av N1 cv, .tuple #[ptr p, ptr q, .slice a n c, .bool true], ptr p, ptr q, .slice a n c, .bool true, .bool true, .bool false, ptr p, ptr r, ptr r, .bool false, u44, u45, u46, u47, u48, u49, u50, u51, u52, u53, u54, u55, u56, u57, u58, u59, u60, u61, u62, u63, u64, u65, u66, u67, u68, u69, u70, u71, u72, u73, u74, u75, u76, u77, u78, u79, u80, u81, u82, u83, u84, u85, u86, u87, u88, u89, u90, u91, u92, u93, u94, u95, u96, u97, u98, ptr r, .slice ao nn co, .slice ao nn co, .int .i64 (nn : Int), nun nn, .bool false, .slice a n c, .int .i64 (n : Int), .int .i64 (32 - (n : Int)), z 108, z 109, z 110, z 111, z 112, z 113, z 114, z 115, z 116, z 117, z 118, z 119, z 120, z 121, z 122, z 123, z 124, z 125, z 126, z 127, z 128, z 129, z 130, z 131, z 132, z 133, z 134, z 135, z 136, z 137, z 138, z 139, z 140, z 141, z 142, z 143, z 144, z 145, z 146, z 147, z 148, z 149, z 150, z 151, z 152, z 153, z 154, z 155, z 156, z 157, z 158, z 159, z 160, undef, undef, undef, undef, undef, undef, undef, undef, undef, undef, undef, undef, undef, undef, undef, undef, undef, undef, undef, undef, undef, undef, undef, undef, undef, undef, undef, undef, undef, undef, undef, undef, undef, undef, undef, undef, undef, undef, undef, undef, undef, undef, undef, undef, undef, undef, undef, undef, undef, undef, undef, undef, undef]) (fun z ds wr => ∃ (k : Nat) (Ds : List Nat), k ≤ nn ∧ z 17 = nun k ∧ ds = Rf.marks Ds ∧ Hid (∃ m' S' Q' f', m' ≤ 900 + 8 * k ∧ S3 T w wr p q r up (.slice a n c) Db W (.slice ao nn co) (fun j => kidsQ up j Q) Ds k m' S' Q' f' tl)) (fun z => nn - (intOf (z 17)).toNat) (by kernel_rfl) ⟨0, [], Nat.zero_le _, rfl, rfl, m, S, Q, f, by omega, HS9.out⟩ ?_
    clear HS9 HB9
    rintro z ds wr ⟨k, Ds, hk, hz, rfl, HS⟩
    simp only [hz]
    clear hz
    obtain ⟨m', S', Q', f', hm', hS⟩ := HS.out
    clear HS
    by_cases hlt : k < nn
    · have hkI : (k : Int) < (nn : Int) := by omega
      have hk0 : (0 : Int) ≤ (k : Int) := by omega
      obtain ⟨x, hxn, hWx, hun⟩ := hS.unit HC.out (by rw [HWN.out]; exact hlt) (by rw [HUL.out]; exact hn32) (by omega)
      rw [HUL.out] at hxn
      obtain ⟨go, rfl⟩ : ∃ go, ao = some ⟨go, 0, none⟩ := by
        obtain ⟨a', c', e', _, _, h3⟩ := Nm.own_shape hS.fm.oo
        rw [HWN.out] at h3
        simp only [Value.slice.injEq] at e'
        obtain ⟨g', hg'⟩ := h3 (by omega)
        exact ⟨g', e'.1.trans hg'⟩
      have c10 := Hid.mk' hun
      have hx0 : (0 : Int) ≤ (x : Int) := by omega
      have hxI : (x : Int) < 32 := by omega
      have hxx' : ((x : Int) == (x : Int)) = true := by simp
      have HWX := Hid.mk' hWx
      have HM := Hid.mk' hm'
      clear hun hS hWx hm'
      go_wp2_with fail
      refine c10.out.mono ?_
      rintro e w10 ⟨rfl, hQ10⟩
      obtain ⟨hdc, hdf, hoo, m2, S2, Q2, hm2, hS2, hxu⟩ := hQ10.out
      have hoc : w10.cell? ⟨go, k, none⟩ = some (nun x) := by
        have := hoo.cells (g := go) rfl k (nun x) (by rw [List.getElem?_map, HWX.out]; rfl)
        rwa [add_at] at this
      have HM2 : Hid (m2 ≤ 900 + 8 * (k + 1)) := by have := HM.out; show _ ≤ _; omega
      clear hQ10 hoo c10 hm2
      go_upto_region 36 with fail
      obtain ⟨wd, hwd⟩ : ∃ wd, w10.setCell ⟨Db, x, none⟩ (.bool false) = wd := ⟨_, rfl⟩
      rw [hwd] at hS2 ⊢
      obtain ⟨Cb, hCb⟩ : ∃ Cb, wd.heap.size = Cb := ⟨_, rfl⟩
      have hCb0 : w10.heap.size = Cb := by rw [← hCb, ← hwd]; simp
      have hBe : Below wd.heap.size wd (wd.alloc (.cells #[.int .i64 0] 3)) := (Below.refl _ _).alloc (Nat.le_refl _) _
      have xBe : Boxed (wd.alloc (.cells #[.int .i64 0] 3)) wd.heap.size 3 (.int .i64 0) := Boxed.new wd _ _
      have hse : (wd.alloc (.cells #[.int .i64 0] 3)).heap.size = wd.heap.size + 1 := by simp
      obtain ⟨We, hWe⟩ : ∃ We, wd.alloc (.cells #[.int .i64 0] 3) = We := ⟨_, rfl⟩
      rw [hWe] at hBe xBe hse ⊢
      rw [hCb0]
      rw [hCb] at xBe hse
      have c11 := Hid.mk' ((hS2.below HC.out hBe).hs.frees3 HC.out)
      obtain ⟨LF, hLF⟩ : ∃ LF, (W.take (k + 1)).reverse ++ (List.range 32).drop up.length = LF := ⟨_, rfl⟩
      have hLL : LF.length = k + 1 + (32 - n) := by
        rw [← hLF, List.length_append, List.length_reverse, List.length_take, List.length_drop, List.length_range, HWN.out, HUL.out]
        omega
      dsimp only at c11
      rw [hLF] at c11
      have HS2 := Hid.mk' hS2
      have HBE := Hid.mk' hBe
      have HCB := Hid.mk' hCb
      have HXU := Hid.mk' hxu
      have HXB := Hid.mk' xBe
      have hwd0 : w.heap.size ≤ wd.heap.size := hS2.hs.bel.size
      clear hS2 hwd hWe hBe xBe hdc hdf hoc hxu hCb0 hLF
      go_wp2_with fail
      refine c11.out.mono ?_
      rintro e w5 ⟨gf, lb, rfl, hQ5⟩
      obtain ⟨_, hb5, X, hit, hXn⟩ := hQ5.out
      obtain ⟨gf', lb', kk, e9, hent, hXl, hsq⟩ := hit
      simp only [Value.func.injEq, Fn.func.injEq, true_and] at e9
      obtain ⟨rfl, rfl⟩ := e9
      have HSQ := Hid.mk' (hsq w5 (Nat.le_refl _) (fun _ _ => rfl))
      have hs5 := hb5.size
      have hXn1 : ∀ b, X b → Cb + 1 ≤ b := fun b hb => by have := hXn b hb; omega
      have y1 : Boxed w5 Cb 3 (.int .i64 0) := (hb5.block _ (by omega)).trans HXB.out
      have HB5 : Hid (Below wd.heap.size wd w5) := HBE.out.trans (hb5.mono HBE.out.size)
      have hfew : LF.length ≤ 65 := by omega
      have HLL := Hid.mk' hLL
      clear hsq hb5 hQ5 c11 hLL
      go_wp2_with fail
      refine Rf.wp_range (L := LF) (w0 := w5) rfl hent HSQ.out (Below.refl _ _) (fun _ => rfl) hXl
        (fun pre W' => Boxed W' Cb 3 (.int .i64 (pre.length : Int)) ∧ Rf.But Cb w5 W')
        (fun _ _ _ => False) ?rest (fun _ _ _ _ _ hs _ _ => hs)
        ⟨y1, Rf.But.refl _ _⟩ ?act ?assign ?body ?done (fun _ _ _ _ h _ => h.elim)
      case assign =>
        intro l' y W2 K hK
        gi_wp2
        exact hK
      case rest =>
        rintro pre A B row ⟨h2, h5⟩ hg hr
        exact ⟨h2.kept hg (fun e => by have := (hr _ e.symm).1; omega), h5.rest (hi := w5.heap.size + 2 + kk) (by omega) hg hr⟩
      case body =>
        rintro l' pre y W2 hpre hsz ⟨h2, h5⟩
        have hc2 := h2.cell
        have hf2 := h2.frozen
        have hl64 : pre.length + 1 ≤ 65 := by
          have h1 := hpre.length_le
          simp at h1; omega
        obtain ⟨mm, hmm⟩ : ∃ mm, pre.length = mm := ⟨_, rfl⟩
        have HLn : Hid (((pre ++ [y]).length : Int) = (mm : Int) + 1) := by show _ = _; rw [← hmm]; simp
        rw [hmm] at hc2 hl64
        have HV := Hid.mk' (h2.set (.int .i64 ((mm : Int) + 1)))
        have HL : Hid (Rf.Leaves X w5.heap.size (w5.heap.size + 2 + kk) W2 (W2.setCell ⟨Cb, 0, none⟩ (.int .i64 ((mm : Int) + 1)))) := Rf.Leaves.grown (grownBy_setCell' W2 Cb _) (fun r' e => by cases e; exact ⟨fun hx => by have := hXn1 _ hx; omega, .inl (by omega)⟩)
        have HB2 : Hid (Rf.But Cb w5 (W2.setCell ⟨Cb, 0, none⟩ (.int .i64 ((mm : Int) + 1)))) := ⟨h5.1.setCell (p := ⟨Cb, 0, none⟩) (Nat.le_refl _) _, fun b hb hne => (Below.heap_setCell _ _ _ b hne).trans (h5.2 b hb hne)⟩
        clear h2 h5 hmm
        gi_wp2
        refine ⟨HL.out, ?_, HB2.out⟩
        rw [HLn.out]
        exact HV.out
      case done =>
        rintro W7 ⟨h2, h5⟩ hK7
        have HS7 := Hid.mk' (HS2.out.mark HC.out (by rw [HCB.out]; exact Nat.le_refl _) HB5.out h5 (D := w5.heap.size) (by have := HB5.out.size; exact this) hK7)
        have hcnt : ((LF.length : Nat) : Int) = 32 - (n : Int) + (k : Int) + 1 := by
          have := HLL.out
          omega
        rw [hcnt] at h2
        obtain ⟨y, hy⟩ : ∃ y, slG S2 (x : Nat) = y := ⟨_, rfl⟩
        have hyu : y.used = false := by rw [← hy]; exact HXU.out
        have c12 : Hid (Calls Try.prog 14 #[ptr p, nun x] W7 fun e w' => e = .returned (.tuple #[y.v, .nilIface]) ∧ Hid (Below W7.heap.size W7 w')) := by
          have := HS7.out.hs.get3 HC.out x (by omega)
          rw [hy] at this
          refine this.mono ?_
          rintro e w' ⟨rfl, hQ⟩
          exact ⟨rfl, hQ.out.2⟩
        have HBX := Hid.mk' h2
        have HNE : Hid (Cb < W7.heap.size) := h2.lt
        clear h2 h5 hK7 y1 hy hcnt hXn1 hfew
        go_wp2_with fail
        refine c12.out.mono ?_
        rintro e w13 ⟨rfl, hb13⟩
        have HB13 := Hid.mk' hb13.out
        have HZ := Hid.mk' (lone_zero w13)
        have HBZ : Hid (Below W7.heap.size W7 (w13.alloc (.cells sltZ 49))) := HB13.out.alloc HB13.out.size _
        clear hb13 c12
        go_wp2_with (first | (refine wpList_store_lone rfl _ _ rfl w13.heap.size rfl y rfl slt0 HZ.out ?_; intro w14 hl14 hg14 hs14; have HB14 : Hid (Below W7.heap.size W7 w14) := (HBZ.out.grown hg14 HBZ.out.size (fun r' e => by cases e; exact HB13.out.size)); have hcc : w14.cell? ⟨Cb, 0, none⟩ = some (.int .i64 (32 - (n : Int) + (k : Int) + 1)) := Boxed.cell (show Boxed w14 Cb 3 _ from (HB14.out.block Cb HNE.out).trans HBX.out); have hc0 := hl14.cells.1; rw [hyu] at hc0; clear hl14 hg14 hs14) | fail)
        refine ⟨⟨⟨k + 1, w5.heap.size :: Ds, by omega, ?num1, rfl, _, _, _, _, HM2.out, HS7.out.below HC.out HB14.out⟩, by kernel_rfl⟩, ?meas1⟩
        case num1 => (show Value.int IntKind.i64 ((k : Int) + 1) = nun (k + 1)); go_num
        case meas1 => (show nn - (intOf (Value.int IntKind.i64 ((k : Int) + 1))).toNat < nn - (intOf (nun k)).toNat); simp [intOf]; omega
    · obtain rfl : k = nn := by omega
      have hkI : ¬ (k : Int) < (k : Int) := by omega
      have hfp := hS.fp
      rw [← HWN.out] at hfp
      obtain rfl := hfp.last
      have hus : ∀ t, t < n → (t ∈ W → (slG S' (t : Nat)).used = false) ∧ (t ∉ W → (slG S' (t : Nat)).used = true ∧ (slG S' (t : Nat)).s.birth = (t : Int) + 1) := fun t ht => by
        have := hfp.us t (by rw [HUL.out]; exact ht)
        rw [List.take_length] at this
        exact this
      have hall0 : allG S' (-1) = [] := by
        have := hfp.fq.all
        rwa [List.drop_length] at this
      obtain ⟨fr, hfr⟩ : ∃ fr, (W.take k).reverse ++ (List.range 32).drop up.length = fr := ⟨_, rfl⟩
      have hhs := hS.hs
      rw [hfr] at hhs
      have hop := hS.op
      have HUS := Hid.mk' hus
      have h4 : Hid (∃ m4, m4 ≤ 2000 ∧ Hs (T.rt r (-1)) w wr p q ⟨S', fr, m4⟩ tl (fun b => Fb (.slice a n c) (.slice ao k co) Db b ∨ b ∈ Ds) ∧ Rf.Open w.heap.size Ds wr) := ⟨m', by omega, hhs, hop⟩
      have cB : Hid (∀ wx wy, (∃ m4, m4 ≤ 2000 ∧ Hs (T.rt r (-1)) w wx p q ⟨S', fr, m4⟩ tl (fun b => Fb (.slice a n c) (.slice ao k co) Db b ∨ b ∈ Ds) ∧ Rf.Open w.heap.size Ds wx) → Below wx.heap.size wx wy → (∃ m4, m4 ≤ 2000 ∧ Hs (T.rt r (-1)) w wy p q ⟨S', fr, m4⟩ tl (fun b => Fb (.slice a n c) (.slice ao k co) Db b ∨ b ∈ Ds) ∧ Rf.Open w.heap.size Ds wy)) := fun wx wy h hb => by
        obtain ⟨m4, g1, g2, g3⟩ := h
        exact ⟨m4, g1, g2.below3 HC.out hb, g3.below hb (Nat.le_refl _)⟩
      have c16 : Hid (Calls Try.prog 12 #[ptr r] wr fun e w' => e = .returned (.tuple #[nun 0, .bool false]) ∧ Hid (∃ m4, m4 ≤ 2000 ∧ Hs (T.rt r (-1)) w w' p q ⟨S', fr, m4⟩ tl (fun b => Fb (.slice a n c) (.slice ao k co) Db b ∨ b ∈ Ds) ∧ Rf.Open w.heap.size Ds w')) := by
        refine (hhs.unit HC.out (by show m' ≤ 100000; omega) (.inl rfl) (unit_none S' fr)).mono ?_
        rintro e w' ⟨rfl, hQ⟩
        obtain ⟨n', hn', g1, g2⟩ := hQ.out
        exact ⟨rfl, m' + n', by omega, g1, hop.kept (fun D hD => g2 D (.inr hD))⟩
      have c17 : Hid (∀ wx, Hid (∃ m4, m4 ≤ 2000 ∧ Hs (T.rt r (-1)) w wx p q ⟨S', fr, m4⟩ tl (fun b => Fb (.slice a n c) (.slice ao k co) Db b ∨ b ∈ Ds) ∧ Rf.Open w.heap.size Ds wx) → Calls Try.prog 15 #[ptr r] wx fun e w' => e = .returned (nu (-1)) ∧ Hid (∃ m4, m4 ≤ 2000 ∧ Hs (T.rt r (-1)) w w' p q ⟨S', fr, m4⟩ tl (fun b => Fb (.slice a n c) (.slice ao k co) Db b ∨ b ∈ Ds) ∧ Rf.Open w.heap.size Ds w')) := fun wx h => by
        obtain ⟨m4, g1, g2, g3⟩ := h.out
        refine (g2.last3 HC.out).mono ?_
        rintro e w' ⟨rfl, hQ⟩
        exact ⟨rfl, cB.out wx w' h.out hQ.out.2⟩
      have c18 : Hid (∀ wx, Hid (∃ m4, m4 ≤ 2000 ∧ Hs (T.rt r (-1)) w wx p q ⟨S', fr, m4⟩ tl (fun b => Fb (.slice a n c) (.slice ao k co) Db b ∨ b ∈ Ds) ∧ Rf.Open w.heap.size Ds wx) → Calls Try.prog 11 #[ptr r] wx fun e w' => ∃ a9 c9, e = .returned (.slice a9 0 c9) ∧ Hid (∃ m4, m4 ≤ 2000 ∧ Hs (T.rt r (-1)) w w' p q ⟨S', fr, m4⟩ tl (fun b => Fb (.slice a n c) (.slice ao k co) Db b ∨ b ∈ Ds) ∧ Rf.Open w.heap.size Ds w')) := fun wx h => by
        obtain ⟨m4, g1, g2, g3⟩ := h.out
        refine (g2.all3 HC.out (.inl rfl) hall0).mono ?_
        rintro e w' ⟨a9, c9, rfl, hQ⟩
        exact ⟨a9, c9, rfl, cB.out wx w' h.out hQ.out.2.2⟩
      have c19 : Hid (∀ wx (i : Nat), i < 32 → Hid (∃ m4, m4 ≤ 2000 ∧ Hs (T.rt r (-1)) w wx p q ⟨S', fr, m4⟩ tl (fun b => Fb (.slice a n c) (.slice ao k co) Db b ∨ b ∈ Ds) ∧ Rf.Open w.heap.size Ds wx) → Calls Try.prog 14 #[ptr p, nun i] wx fun e w' => e = .returned (.tuple #[(slG S' (i : Nat)).v, .nilIface]) ∧ Hid (Below wx.heap.size wx w')) := fun wx i hi h => by
        obtain ⟨m4, g1, g2, g3⟩ := h.out
        refine (g2.get3 HC.out i hi).mono ?_
        rintro e w' ⟨rfl, hQ⟩
        exact ⟨rfl, hQ.out.2⟩
      clear hS hfp hus hall0 hfr hhs hop h4 hlt hk hm'
      go_wp2_with fail
      refine c16.out.mono ?_
      rintro e w16 ⟨rfl, hQ16⟩
      have c17' := Hid.mk' (c17.out w16 hQ16)
      clear c16 c17
      go_wp2_with fail
      refine c17'.out.mono ?_
      rintro e w17 ⟨rfl, hQ17⟩
      have c18' := Hid.mk' (c18.out w17 hQ17)
      clear c17' c18 hQ16
      go_wp2_with fail
      refine c18'.out.mono ?_
      rintro e w18 ⟨a18, c18v, rfl, hQ18⟩
      clear c18' hQ17
      go_wp2_with fail
      go_loopw [25, 26] (fun lv iv wr => ∃ lf i : Nat, i ≤ n ∧ lf ≤ i ∧ lv = nun lf ∧ iv = nun i ∧ Hid (lf = cnt i (fun t => !decide (t ∈ W)) ∧ ∃ m4, m4 ≤ 2000 ∧ Hs (T.rt r (-1)) w wr p q ⟨S', fr, m4⟩ tl (fun b => Fb (.slice a n c) (.slice ao k co) Db b ∨ b ∈ Ds) ∧ Rf.Open w.heap.size Ds wr)) (fun _ iv _ => n - (intOf iv).toNat)
      case atStart => exact ⟨0, 0, Nat.zero_le _, Nat.le_refl _, rfl, rfl, rfl, hQ18.out⟩
      case round =>
        clear hQ18
        obtain ⟨lf, i, hi, hlf, rfl, rfl, HR⟩ := hrel
        by_cases hin : i < n
        · have hiI : (i : Int) < (n : Int) := by omega
          have hi0 : (0 : Int) ≤ (i : Int) := by omega
          obtain ⟨y, hy⟩ : ∃ y, slG S' (i : Nat) = y := ⟨_, rfl⟩
          have hu := HUS.out i hin
          have c20 := Hid.mk' (c19.out wr i (by omega) HR.out.2)
          rw [hy] at hu c20
          have HRR := Hid.mk' HR.out.2
          have HL := Hid.mk' HR.out.1
          by_cases hiW : i ∈ W
          · have hyu := hu.1 hiW
            have HL2 : Hid (lf = cnt (i + 1) (fun t => !decide (t ∈ W))) := by
              show _ = _
              rw [cnt_succ, ← HL.out]
              simp [hiW]
            clear hu hiW hy HR HL c19
            go_wp2_with fail
            refine c20.out.mono ?_
            rintro e w21 ⟨rfl, hb21⟩
            have HB21 := Hid.mk' hb21.out
            have HZ := Hid.mk' (lone_zero w21)
            have HBZ : Hid (Below wr.heap.size wr (w21.alloc (.cells sltZ 49))) := HB21.out.alloc HB21.out.size _
            clear hb21 c20
            go_wp2_with (first | (refine wpList_store_lone rfl _ _ rfl w21.heap.size rfl y rfl slt0 HZ.out ?_; intro w22 hl22 hg22 hs22; have HB22 : Hid (Below wr.heap.size wr w22) := (HBZ.out.grown hg22 HBZ.out.size (fun r' e => by cases e; exact HB21.out.size)); have hc0 := hl22.cells.1; rw [hyu] at hc0; clear hl22 hg22 hs22) | fail)
            go_roundw
            case rel => exact ⟨lf, i + 1, by omega, by omega, rfl, by go_num, HL2.out, cB.out wr w22 HRR.out HB22.out⟩
            case measure => simp [intOf]; omega
          · obtain ⟨hyu, hyb⟩ := hu.2 hiW
            have HL2 : Hid (lf + 1 = cnt (i + 1) (fun t => !decide (t ∈ W))) := by
              show _ = _
              rw [cnt_succ, ← HL.out]
              simp [hiW]
            clear hu hiW hy HR HL c19
            go_wp2_with fail
            refine c20.out.mono ?_
            rintro e w21 ⟨rfl, hb21⟩
            have HB21 := Hid.mk' hb21.out
            have HZ := Hid.mk' (lone_zero w21)
            have HBZ : Hid (Below wr.heap.size wr (w21.alloc (.cells sltZ 49))) := HB21.out.alloc HB21.out.size _
            clear hb21 c20
            go_wp2_with (first | (refine wpList_store_lone rfl _ _ rfl w21.heap.size rfl y rfl slt0 HZ.out ?_; intro w22 hl22 hg22 hs22; have HB22 : Hid (Below wr.heap.size wr w22) := (HBZ.out.grown hg22 HBZ.out.size (fun r' e => by cases e; exact HB21.out.size)); have hc0 := hl22.cells.1; rw [hyu] at hc0; have hc6 := hl22.cells.2.2.2.2.2.2.1; rw [hyb] at hc6; clear hl22 hg22 hs22) | fail)
            go_roundw
            case rel => exact ⟨lf + 1, i + 1, by omega, by omega, by go_num, by go_num, HL2.out, cB.out wr w22 HRR.out HB22.out⟩
            case measure => simp [intOf]; omega
        · have hiI : ¬ (i : Int) < (n : Int) := by omega
          obtain rfl : i = n := by omega
          have HE : Hid (((lf : Int) == (i : Int) - (k : Int)) = true) := by
            have h1 := cnt_not (fun t => decide (t ∈ W)) i
            have h2 := HCW.out
            have h3 := HR.out.1
            show _ = _
            rw [beq_iff_eq]
            omega
          obtain ⟨m4, g1, g2, g3⟩ := HR.out.2
          have HG2 := Hid.mk' g2.bel
          have HG3 := Hid.mk' g3
          clear HR g2 g3 c19
          go_wp2
          refine Rf.leaves_marks (B := w.heap.size) HG3.out HG2.out.size (fun W' hW' => ⟨_, results_tmp rfl _ _ _, ?_, HB.out.trans ((HG2.out.trans hW').mono HB.out.size)⟩)
          show Ending.returned (Value.bool ((lf : Int) == (i : Int) - (k : Int))) = _
          rw [HE.out]
end Sw
end Go.Proofs.Ythabnombfbehkaa
