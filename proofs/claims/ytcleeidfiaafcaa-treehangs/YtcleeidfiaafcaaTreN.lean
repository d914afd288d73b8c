import Derived.Test.YtcleeidfiaafcaaTreM
import Derived.Test.YtcleeidfiaafcaaTreD
/- What is hung is found there, and what is cut is found no more: out of the contracts. -/
namespace Go.Proofs.Ytcleeidfiaafcaa
set_option linter.ambiguousOpen false
open Go.RowKit
namespace Tr
open An Rg Ft Lv
set_option linter.unusedSimpArgs false
set_option linter.unusedVariables false
attribute [local go_sem] Oper.semAt_some

set_option maxRecDepth 100000 in
set_option maxHeartbeats 8000000 in
theorem treeHangs_yes {Rep : World → Nat → (Nat → Prop) → Arn → Prop} {R : RepTy} (H : KeepC Rep) (CN : NewC Rep) (CP : PutC Rep) (C : TreeC Rep R) (v : Value) (l : List Int) (which : Int) (w : World) (hR : RdJ w v l) (hl : ∀ x ∈ l, I64 x) (hwh : I64 which) :
    Calls Try.prog 3 #[v, nu which] w fun e w' => e = .returned (.bool true) ∧ Below w.heap.size w w' := by
  obtain ⟨i0, ji, hz0, hz1, hz2⟩ := info_parts info_int
  have cW := Hid.mk' (works_any H CN CP C w)
  have cU : Hid (∀ wx n, n ≤ 32 → Calls Try.prog 5 #[nun n] wx fun e w' => ∃ p q, e = .returned (.tuple #[ptr p, ptr q, .bool true]) ∧ TH R wx w' p q n [] (-1) n (fun _ => False)) := fun wx n hn => used_th H CN CP C n hn wx
  have cP : Hid (∀ wx (x : Int) (n : Nat), 0 < n → n ≤ 33 → I64 x → Calls Try.prog 6 #[nu x, nun n] wx fun e w' => e = .returned (nu (x % (n : Int))) ∧ w' = wx) := fun wx x n h1 h2 hx => pickT x n wx h1 (by omega) hx
  have HC := Hid.mk' C
  have HRD := Hid.mk' hR
  have HL := Hid.mk' hl
  obtain ⟨av, cv, rfl, hc1, hc2, _⟩ := hR
  obtain ⟨N0, hN0⟩ : ∃ N, l.length = N := ⟨_, rfl⟩
  rw [hN0] at hc1 HRD ⊢
  unfold maxLen at hc2
  have HN0 := Hid.mk' hN0
  obtain ⟨N, hN⟩ : ∃ N, min N0 32 = N := ⟨_, rfl⟩
  have hmin : ∀ wx, (Builtin.min_ #[3, 3] 3 #[.int .i64 (N0 : Int), .int .i64 32]).run Try.prog wx = .ok (.int .i64 (N : Int)) wx := fun wx => by
    rw [run_min_int2]
    congr 2
    split <;> omega
  have hN32 : N ≤ 32 := by omega
  have hNN : N ≤ N0 := by omega
  have hcI : (cv : Int) ≤ 9223372036854775807 := by omega
  clear hN0 H CN CP C hl hN
  go_enter Try.func3, Try.ntmps3
  go_wp2_with fail
  refine cW.out.mono ?_
  rintro e w1 ⟨rfl, hb1⟩
  have HB1 := Hid.mk' hb1
  have HR1 := Hid.mk' (HRD.out.below hb1)
  clear hb1 cW
  have C0 := Hid.mk' (cU.out w1 N hN32)
  clear cU
  go_wp2_with fail
  clear hmin
  refine C0.out.mono ?_
  rintro e w2 ⟨p, q, rfl, h2⟩
  have H2 := Hid.mk' (tu_start HC.out h2)
  clear h2 C0
  go_wp2_with fail
  go_loopw [9, 10] (fun uv iv wr => ∃ (k : Nat) (up : List Int) (a : Option Addr) (c : Nat), k ≤ N ∧ iv = nun k ∧ uv = .slice a k c ∧ c ≤ 9223372036854775807 ∧ Hid (up.length = k) ∧ Hid (TU R w1 wr p q N up up (-1) (N + 8 * k) (.slice a k c))) (fun _ iv _ => N - (intOf iv).toNat)
  case atStart => exact ⟨0, [], none, 0, Nat.zero_le _, rfl, rfl, by omega, rfl, H2⟩
  case round =>
    clear H2
    obtain ⟨k, up, a, c, hk, rfl, rfl, hc, HK, HT⟩ := hrel
    by_cases hlt : k < N
    · have hkI : (k : Int) < (N : Int) := by omega
      obtain ⟨x, hx⟩ : ∃ x, l[k]? = some x := ⟨_, List.getElem?_eq_getElem (by rw [HN0.out]; omega)⟩
      obtain ⟨gv, ov, hav, hcx⟩ : ∃ gv ov, av = some ⟨gv, ov, none⟩ ∧ wr.cell? ⟨gv, ov + k, none⟩ = some (nu x) := by
        obtain ⟨a', c', e, _, _, h9⟩ := HR1.out
        simp only [Value.slice.injEq] at e
        obtain ⟨rfl, _, rfl⟩ := e
        obtain ⟨g, o, rfl, hg, hc⟩ := h9 (by rw [HN0.out]; omega)
        exact ⟨g, o, rfl, (HT.out.bel.cell (p := ⟨g, o + k, none⟩) hg).trans (hc k x hx)⟩
      subst hav
      have hkN0 : (k : Int) < (N0 : Int) := by omega
      have C1 := Hid.mk' (cP.out wr x (k + 1) (by omega) (by omega) (HL.out x (List.mem_of_getElem? hx)))
      obtain ⟨y, hy, hy2⟩ : ∃ y : Nat, x % ((k + 1 : Nat) : Int) = y ∧ y ≤ k := by
        have h1 := Int.emod_nonneg x (b := ((k + 1 : Nat) : Int)) (by omega)
        have h2 := Int.emod_lt_of_pos x (b := ((k + 1 : Nat) : Int)) (by omega)
        exact ⟨(x % ((k + 1 : Nat) : Int)).toNat, by omega, by omega⟩
      rw [hy] at C1
      clear hx hy
      have hB3 : Below wr.heap.size wr (wr.alloc (.cells #[nu 0, nu 0] 30)) := (Below.refl _ _).alloc (Nat.le_refl _) _
      by_cases hy0 : y = 0
      · subst hy0
        have C2 : Hid (∀ wx, Below wr.heap.size wr wx → Calls Try.prog 7 #[ptr q, nun k, lkU 0 0] wx fun e w' => e = .returned .nilIface ∧ TU R w1 w' p q N up (up ++ [-1]) (-1) (N + 8 * k + 8) (.slice a k c)) := fun wx hx => by
          have := tu_add HC.out (HT.out.below HC.out hx) (by omega) (by rw [HK.out]; exact hlt) hN32 (x := -1) (by omega)
          rw [HK.out, show linkS (-1) = 0 by decide, show linkB (-1) = 0 by decide] at this
          exact this
        go_wp2_with fail
        refine C1.out.mono ?_
        rintro e w9 ⟨rfl, hw9⟩
        subst w9
        go_upto_region 15 with fail
        have q0 : (wr.alloc (.cells #[nu 0, nu 0] 30)).cell? ⟨wr.heap.size, 0, none⟩ = some (nu 0) := cell_of_row _ _ _ _ _ _ (heap_alloc_new _ _)
        have q1 : (wr.alloc (.cells #[nu 0, nu 0] 30)).cell? ⟨wr.heap.size, 1, none⟩ = some (nu 0) := cell_of_row _ _ _ _ _ _ (heap_alloc_new _ _)
        have HB3 := Hid.mk' hB3
        clear hB3
        generalize wr.alloc (.cells #[nu 0, nu 0] 30) = wA at *
        go_wp2_with fail
        refine (C2.out wA HB3.out).mono ?_
        rintro e w3 ⟨rfl, h3⟩
        have HO3 := Hid.mk' h3
        have HB4 : Hid (Below w3.heap.size w3 (w3.alloc (.cells #[nu (-1)] 3))) := (Below.refl _ _).alloc (Nat.le_refl _) _
        have HT4 := Hid.mk' (HO3.out.below HC.out HB4.out)
        have HR4 : Hid ((w3.alloc (.cells #[nu (-1)] 3)).ownsRow w1.heap.size 3 1 (.slice a k c) k (up.map nu)) := by
          have := HT4.out.row
          rwa [HK.out] at this
        have HZ4 : Hid (w1.heap.size ≤ (w3.alloc (.cells #[nu (-1)] 3)).heap.size) := HT4.out.bel.size
        clear h3 C2 HO3 HB4 HT
        go_wp2_with (first | (at_builtin; refine Nm.wpList_append_keep _ rfl _ _ 22 rfl w1.heap.size 3 i0 (.int .i64 0) 1 8 Try.underlying22 ji hz0 hz1 hz2 rfl (by decide) _ k _ rfl HR4.out ⟨w3.heap.size, 0, none⟩ 1 1 [nu (-1)] rfl rfl (cell_one_new _ _ _) (by simp [Value.oneCell']) (by unfold maxLen; omega) (by omega) HZ4.out (by decide) ?_; intro v5 w5 hg5; have hT5 := tu_push HC.out (x := (-1)) HT4.out (by rw [HK.out]; exact hg5); obtain ⟨a5, c5, rfl, _, hc5, _⟩ := Nm.own_shape hg5.own; have HT5 := Hid.mk' hT5; clear hg5 hT5) | fail)
        unfold maxLen at hc5
        go_roundw
        case rel => exact ⟨k + 1, up ++ [(-1)], a5, c5, by omega, by go_num, rfl, by omega, by show _ = _; rw [List.length_append, HK.out]; rfl, HT5⟩
        case measure => simp [intOf]; omega
      · obtain ⟨z, rfl⟩ : ∃ z, y = z + 1 := ⟨y - 1, by omega⟩
        have hzk : z < k := by omega
        have hzI : (0 : Int) ≤ (z : Int) := by omega
        have hz1' : ((z + 1 : Nat) : Int) - 1 = (z : Int) := by omega
        have C2 : Hid (∀ wx, Below wr.heap.size wr wx → Calls Try.prog 7 #[ptr q, nun k, lkU z ((z : Int) + 1)] wx fun e w' => e = .returned .nilIface ∧ TU R w1 w' p q N up (up ++ [(z : Int)]) (-1) (N + 8 * k + 8) (.slice a k c)) := fun wx hx => by
          have := tu_add HC.out (HT.out.below HC.out hx) (by omega) (by rw [HK.out]; exact hlt) hN32 (x := (z : Int)) (by rw [HK.out]; omega)
          rw [HK.out, show linkS (z : Int) = z from if_pos hzI, show linkB (z : Int) = (z : Int) + 1 from if_pos hzI] at this
          exact this
        go_wp2_with fail
        refine C1.out.mono ?_
        rintro e w9 ⟨rfl, hw9⟩
        subst w9
        go_upto_region 15 with fail
        have hB3 : Below wr.heap.size wr (wr.alloc (.cells #[nu z, nu ((z : Int) + 1)] 30)) := (Below.refl _ _).alloc (Nat.le_refl _) _
        have q0 : (wr.alloc (.cells #[nu z, nu ((z : Int) + 1)] 30)).cell? ⟨wr.heap.size, 0, none⟩ = some (nu z) := cell_of_row _ _ _ _ _ _ (heap_alloc_new _ _)
        have q1 : (wr.alloc (.cells #[nu z, nu ((z : Int) + 1)] 30)).cell? ⟨wr.heap.size, 1, none⟩ = some (nu ((z : Int) + 1)) := cell_of_row _ _ _ _ _ _ (heap_alloc_new _ _)
        have HB3 := Hid.mk' hB3
        clear hB3
        generalize wr.alloc (.cells #[nu z, nu ((z : Int) + 1)] 30) = wA at *
        go_wp2_with fail
        refine (C2.out wA HB3.out).mono ?_
        rintro e w3 ⟨rfl, h3⟩
        have HO3 := Hid.mk' h3
        have HB4 : Hid (Below w3.heap.size w3 (w3.alloc (.cells #[nu (z : Int)] 3))) := (Below.refl _ _).alloc (Nat.le_refl _) _
        have HT4 := Hid.mk' (HO3.out.below HC.out HB4.out)
        have HR4 : Hid ((w3.alloc (.cells #[nu (z : Int)] 3)).ownsRow w1.heap.size 3 1 (.slice a k c) k (up.map nu)) := by
          have := HT4.out.row
          rwa [HK.out] at this
        have HZ4 : Hid (w1.heap.size ≤ (w3.alloc (.cells #[nu (z : Int)] 3)).heap.size) := HT4.out.bel.size
        clear h3 C2 HO3 HB4 HT
        go_wp2_with (first | (at_builtin; refine Nm.wpList_append_keep _ rfl _ _ 22 rfl w1.heap.size 3 i0 (.int .i64 0) 1 8 Try.underlying22 ji hz0 hz1 hz2 rfl (by decide) _ k _ rfl HR4.out ⟨w3.heap.size, 0, none⟩ 1 1 [nu (z : Int)] rfl rfl (cell_one_new _ _ _) (by simp [Value.oneCell']) (by unfold maxLen; omega) (by omega) HZ4.out (by decide) ?_; intro v5 w5 hg5; have hT5 := tu_push HC.out (x := (z : Int)) HT4.out (by rw [HK.out]; exact hg5); obtain ⟨a5, c5, rfl, _, hc5, _⟩ := Nm.own_shape hg5.own; have HT5 := Hid.mk' hT5; clear hg5 hT5) | fail)
        unfold maxLen at hc5
        go_roundw
        case rel => exact ⟨k + 1, up ++ [(z : Int)], a5, c5, by omega, by go_num, rfl, by omega, by show _ = _; rw [List.length_append, HK.out]; rfl, HT5⟩
        case measure => simp [intOf]; omega
    · obtain rfl : k = N := by omega
      have hkI : ¬ (k : Int) < (k : Int) := by omega
      clear hk hlt
      by_cases hk0 : k = 0
      · subst hk0
        obtain rfl : up = [] := List.eq_nil_of_length_eq_zero HK.out
        have C1 : Hid (Calls Try.prog 8 #[ptr q, nu 0, nu 0] wr fun e w' => ∃ a' c', e = .returned (.slice a' 0 c') ∧ TU R w1 w' p q 0 [] [] (-1) (0 + 8 * 0) (.slice a 0 c)) := (roots_th HC.out HT.out.th).mono (fun e w' ⟨v, h1, h2, h3⟩ => by
          rw [show kidsU [] (-1) (-1) = [] from rfl] at h2
          obtain ⟨a', c', rfl, _⟩ := Nm.own_shape h2
          exact ⟨a', c', h1, HT.out.below HC.out h3⟩)
        have C2 : Hid (∀ wx, TU R w1 wx p q 0 [] [] (-1) (0 + 8 * 0) (.slice a 0 c) → Calls Try.prog 9 #[ptr q] wx fun e w' => e = .returned (nu (-1)) ∧ Below w1.heap.size w1 w') := fun wx h => by
          have := last_th HC.out h.th
          rw [show lastI (kidsU [] (-1) (-1)) = -1 from rfl] at this
          exact this.mono (fun e w' h1 => ⟨h1.1, h.bel.trans (h1.2.mono h.bel.size)⟩)
        clear HT
        go_wp2_with fail
        refine C1.out.mono ?_
        rintro e w3 ⟨a', c', rfl, h3⟩
        have C3 := Hid.mk' (C2.out w3 h3)
        clear h3 C1 C2
        go_wp2_with fail
        refine C3.out.mono ?_
        rintro e w4 ⟨rfl, h4⟩
        have HB4 : Hid (Below w.heap.size w w4) := HB1.out.trans (h4.mono HB1.out.size)
        clear h4 C3
        go_wp2
        go_ret
        exact ⟨rfl, HB4.out⟩
      · have hkp : 0 < k := by omega
        have hkpI : ¬ (k : Int) = 0 := by omega
        have C1 := Hid.mk' (cP.out wr which k hkp (by omega) hwh)
        obtain ⟨d, hd', hd⟩ : ∃ d : Nat, which % (k : Int) = d ∧ d < k := by
          have h1 := Int.emod_nonneg which (b := (k : Int)) (by omega)
          have h2 := Int.emod_lt_of_pos which (b := (k : Int)) (by omega)
          exact ⟨(which % (k : Int)).toNat, by omega, by omega⟩
        rw [hd'] at C1
        clear hd' hkI hk0
        go_wp2_with fail
        refine C1.out.mono ?_
        rintro e w9 ⟨rfl, hw9⟩
        subst w9
        clear C1
        go_wp2_with fail
        go_loopw [14] (fun rv wr => ∃ r : Nat, r ≤ 2 ∧ rv = nun r ∧ ((r ≤ 1 ∧ Hid (TU R w1 wr p q k up up (-1) (k + 8 * k) (.slice a k c))) ∨ (r = 2 ∧ Hid (TU R w1 wr p q k up up d (k + 8 * k + 8) (.slice a k c))))) (fun rv _ => 2 - (intOf rv).toNat)
        case atStart => exact ⟨0, by omega, rfl, .inl ⟨by omega, HT⟩⟩
        case round =>
          clear HT
          obtain ⟨r, hr, rfl, ⟨hr1, HT⟩ | ⟨rfl, HT⟩⟩ := hrel
          · obtain rfl | rfl : r = 0 ∨ r = 1 := by omega
            · skip
              go_wp2_with fail
              refine (roots_th HC.out HT.out.th).mono ?_
              rintro e wa0 ⟨va0, rfl, ho, hb⟩
              have TA0 := Hid.mk' (HT.out.below HC.out hb)
              have RA0 := Hid.mk' (own_rdN ho)
              obtain ⟨aa0, ca0, rfl, _⟩ := Nm.own_shape ho
              clear ho hb
              go_wp2_with fail
              refine (tu_kids TA0.out (by rw [HK.out]; exact hN32) (-1)).mono ?_
              rintro e wb0 ⟨vb0, rfl, ho, hb⟩
              have TB0 := Hid.mk' (TA0.out.below HC.out hb)
              have RB0 := Hid.mk' (own_rdN ho)
              have RC0 := Hid.mk' (RA0.out.below hb)
              obtain ⟨ab0, cb0, rfl, _⟩ := Nm.own_shape ho
              clear ho hb
              go_wp2_with fail
              refine (sameN _ _ _ _ RC0.out RB0.out).mono ?_
              rintro e wc0 ⟨rfl, hb⟩
              have TC0 := Hid.mk' (TB0.out.below HC.out hb)
              clear hb TA0 TB0 RA0 RB0 RC0
              go_wp2_with fail
              go_loopw [16] (fun iv wr => ∃ i : Nat, i ≤ k ∧ iv = nun i ∧ Hid (TU R w1 wr p q k up up (-1) (k + 8 * k) (.slice a k c))) (fun iv _ => k - (intOf iv).toNat)
              case atStart => exact ⟨0, Nat.zero_le _, rfl, TC0⟩
              case round =>
                clear TC0 HT
                obtain ⟨i, hi, rfl, HI⟩ := hrel
                by_cases hik : i < k
                · have hikI : (i : Int) < (k : Int) := by omega
                  go_wp2_with fail
                  refine (kids_th HC.out HI.out.th hik).mono ?_
                  rintro e wa0x ⟨va0x, rfl, ho, hb⟩
                  have TA0x := Hid.mk' (HI.out.below HC.out hb)
                  have RA0x := Hid.mk' (own_rdN ho)
                  obtain ⟨aa0x, ca0x, rfl, _⟩ := Nm.own_shape ho
                  clear ho hb
                  go_wp2_with fail
                  refine (tu_kids TA0x.out (by rw [HK.out]; exact hN32) i).mono ?_
                  rintro e wb0x ⟨vb0x, rfl, ho, hb⟩
                  have TB0x := Hid.mk' (TA0x.out.below HC.out hb)
                  have RB0x := Hid.mk' (own_rdN ho)
                  have RC0x := Hid.mk' (RA0x.out.below hb)
                  obtain ⟨ab0x, cb0x, rfl, _⟩ := Nm.own_shape ho
                  clear ho hb
                  go_wp2_with fail
                  refine (sameN _ _ _ _ RC0x.out RB0x.out).mono ?_
                  rintro e wc0x ⟨rfl, hb⟩
                  have TC0x := Hid.mk' (TB0x.out.below HC.out hb)
                  clear hb TA0x TB0x RA0x RB0x RC0x
                  go_wp2_with fail
                  refine (under_th HC.out TC0x.out.th HI.out.ups hik).mono ?_
                  rintro e wa0y ⟨va0y, rfl, ho, hb⟩
                  have TA0y := Hid.mk' (TC0x.out.below HC.out hb)
                  have RA0y := Hid.mk' (own_rdN ho)
                  obtain ⟨aa0y, ca0y, rfl, _⟩ := Nm.own_shape ho
                  clear ho hb
                  go_wp2_with fail
                  refine (tu_under TA0y.out (by rw [HK.out]; exact hN32) (by rw [HK.out]; exact hik)).mono ?_
                  rintro e wb0y ⟨vb0y, rfl, ho, hb⟩
                  have TB0y := Hid.mk' (TA0y.out.below HC.out hb)
                  have RB0y := Hid.mk' (own_rdN ho)
                  have RC0y := Hid.mk' (RA0y.out.below hb)
                  obtain ⟨ab0y, cb0y, rfl, _⟩ := Nm.own_shape ho
                  clear ho hb
                  go_wp2_with fail
                  refine (sameN _ _ _ _ RC0y.out RB0y.out).mono ?_
                  rintro e wc0y ⟨rfl, hb⟩
                  have TC0y := Hid.mk' (TB0y.out.below HC.out hb)
                  clear hb TA0y TB0y RA0y RB0y RC0y
                  go_wp2
                  go_roundw
                  case rel => exact ⟨i + 1, by omega, by go_num, TC0y⟩
                  case measure => simp [intOf]; omega
                · obtain rfl : i = k := by omega
                  have hikI : ¬ (i : Int) < (i : Int) := by omega
                  go_wp2
                  go_roundw
                  case rel => exact ⟨1, by omega, by go_num, by first | exact .inl ⟨by omega, HI⟩ | exact .inr ⟨rfl, HI⟩⟩
                  case measure => simp [intOf]
            · skip
              go_wp2_with fail
              refine (tu_cut HC.out HT.out (by omega) HK.out hd).mono ?_
              rintro e wt ⟨rfl, ht⟩
              have HT0 := Hid.mk' ht
              clear ht
              go_wp2_with fail
              refine (roots_th HC.out HT0.out.th).mono ?_
              rintro e wa1 ⟨va1, rfl, ho, hb⟩
              have TA1 := Hid.mk' (HT0.out.below HC.out hb)
              have RA1 := Hid.mk' (own_rdN ho)
              obtain ⟨aa1, ca1, rfl, _⟩ := Nm.own_shape ho
              clear ho hb
              go_wp2_with fail
              refine (tu_kids TA1.out (by rw [HK.out]; exact hN32) (-1)).mono ?_
              rintro e wb1 ⟨vb1, rfl, ho, hb⟩
              have TB1 := Hid.mk' (TA1.out.below HC.out hb)
              have RB1 := Hid.mk' (own_rdN ho)
              have RC1 := Hid.mk' (RA1.out.below hb)
              obtain ⟨ab1, cb1, rfl, _⟩ := Nm.own_shape ho
              clear ho hb
              go_wp2_with fail
              refine (sameN _ _ _ _ RC1.out RB1.out).mono ?_
              rintro e wc1 ⟨rfl, hb⟩
              have TC1 := Hid.mk' (TB1.out.below HC.out hb)
              clear hb TA1 TB1 RA1 RB1 RC1
              go_wp2_with fail
              go_loopw [16] (fun iv wr => ∃ i : Nat, i ≤ k ∧ iv = nun i ∧ Hid (TU R w1 wr p q k up up (d : Int) (k + 8 * k + 8) (.slice a k c))) (fun iv _ => k - (intOf iv).toNat)
              case atStart => exact ⟨0, Nat.zero_le _, rfl, TC1⟩
              case round =>
                clear TC1 HT
                obtain ⟨i, hi, rfl, HI⟩ := hrel
                by_cases hik : i < k
                · have hikI : (i : Int) < (k : Int) := by omega
                  go_wp2_with fail
                  refine (kids_th HC.out HI.out.th hik).mono ?_
                  rintro e wa1x ⟨va1x, rfl, ho, hb⟩
                  have TA1x := Hid.mk' (HI.out.below HC.out hb)
                  have RA1x := Hid.mk' (own_rdN ho)
                  obtain ⟨aa1x, ca1x, rfl, _⟩ := Nm.own_shape ho
                  clear ho hb
                  go_wp2_with fail
                  refine (tu_kids TA1x.out (by rw [HK.out]; exact hN32) i).mono ?_
                  rintro e wb1x ⟨vb1x, rfl, ho, hb⟩
                  have TB1x := Hid.mk' (TA1x.out.below HC.out hb)
                  have RB1x := Hid.mk' (own_rdN ho)
                  have RC1x := Hid.mk' (RA1x.out.below hb)
                  obtain ⟨ab1x, cb1x, rfl, _⟩ := Nm.own_shape ho
                  clear ho hb
                  go_wp2_with fail
                  refine (sameN _ _ _ _ RC1x.out RB1x.out).mono ?_
                  rintro e wc1x ⟨rfl, hb⟩
                  have TC1x := Hid.mk' (TB1x.out.below HC.out hb)
                  clear hb TA1x TB1x RA1x RB1x RC1x
                  go_wp2_with fail
                  refine (under_th HC.out TC1x.out.th HI.out.ups hik).mono ?_
                  rintro e wa1y ⟨va1y, rfl, ho, hb⟩
                  have TA1y := Hid.mk' (TC1x.out.below HC.out hb)
                  have RA1y := Hid.mk' (own_rdN ho)
                  obtain ⟨aa1y, ca1y, rfl, _⟩ := Nm.own_shape ho
                  clear ho hb
                  go_wp2_with fail
                  refine (tu_under TA1y.out (by rw [HK.out]; exact hN32) (by rw [HK.out]; exact hik)).mono ?_
                  rintro e wb1y ⟨vb1y, rfl, ho, hb⟩
                  have TB1y := Hid.mk' (TA1y.out.below HC.out hb)
                  have RB1y := Hid.mk' (own_rdN ho)
                  have RC1y := Hid.mk' (RA1y.out.below hb)
                  obtain ⟨ab1y, cb1y, rfl, _⟩ := Nm.own_shape ho
                  clear ho hb
                  go_wp2_with fail
                  refine (sameN _ _ _ _ RC1y.out RB1y.out).mono ?_
                  rintro e wc1y ⟨rfl, hb⟩
                  have TC1y := Hid.mk' (TB1y.out.below HC.out hb)
                  clear hb TA1y TB1y RA1y RB1y RC1y
                  go_wp2
                  go_roundw
                  case rel => exact ⟨i + 1, by omega, by go_num, TC1y⟩
                  case measure => simp [intOf]; omega
                · obtain rfl : i = k := by omega
                  have hikI : ¬ (i : Int) < (i : Int) := by omega
                  go_wp2
                  go_roundw
                  case rel => exact ⟨2, by omega, by go_num, by first | exact .inl ⟨by omega, HI⟩ | exact .inr ⟨rfl, HI⟩⟩
                  case measure => simp [intOf]
          · obtain ⟨ga, hga⟩ : ∃ ga, a = some ⟨ga, 0, none⟩ := by
              obtain ⟨a', c', e, _, _, h9⟩ := Nm.own_shape HT.out.row
              simp only [Value.slice.injEq] at e
              obtain ⟨rfl, _, rfl⟩ := e
              exact h9 (by rw [HK.out]; exact hkp)
            subst hga
            have hgl : ga < wr.heap.size := (HT.out.row.lt ga rfl).2
            have huv : up[d]? = some (up.getD d 0) := by
              rw [List.getD_eq_getElem?_getD, List.getElem?_eq_getElem (by rw [HK.out]; exact hd)]
              rfl
            have hub := HT.out.ups d (by rw [HK.out]; exact hd)
            have hcu : wr.cell? ⟨ga, d, none⟩ = some (nu (up.getD d 0)) := by
              have h0 := HT.out.row
              rw [HK.out] at h0
              have := h0.cellAt (g := ga) (cap := c) d (by omega)
              rw [this, List.getElem?_map, huv]
              rfl
            have hdI : (d : Int) < (k : Int) := by omega
            by_cases hu0 : 0 ≤ up.getD d 0
            · obtain ⟨z, hz⟩ := Int.eq_ofNat_of_zero_le hu0
              have hzd : z < d := by omega
              have hzI : (0 : Int) ≤ (z : Int) := by omega
              rw [hz] at huv hcu
              rw [hz] at hu0
              have hBA : Below wr.heap.size wr (wr.alloc (.cells #[nu z, nu ((z : Int) + 1)] 30)) := (Below.refl _ _).alloc (Nat.le_refl _) _
              have q0 : (wr.alloc (.cells #[nu z, nu ((z : Int) + 1)] 30)).cell? ⟨wr.heap.size, 0, none⟩ = some (nu z) := cell_of_row _ _ _ _ _ _ (heap_alloc_new _ _)
              have q1 : (wr.alloc (.cells #[nu z, nu ((z : Int) + 1)] 30)).cell? ⟨wr.heap.size, 1, none⟩ = some (nu ((z : Int) + 1)) := cell_of_row _ _ _ _ _ _ (heap_alloc_new _ _)
              have HA := Hid.mk' (HT.out.below HC.out hBA)
              have hcu0 : (wr.alloc (.cells #[nu 0, nu 0] 30)).cell? ⟨ga, d, none⟩ = some (nu (z : Int)) := (((Below.refl _ wr).alloc (Nat.le_refl _) (.cells #[nu 0, nu 0] 30)).cell (p := ⟨ga, d, none⟩) hgl).trans hcu
              have C2 : Hid (∀ wx, TU R w1 wx p q k up up d (k + 8 * k + 8) (.slice (some ⟨ga, 0, none⟩) k c) → Calls Try.prog 7 #[ptr q, nun d, lkU z ((z : Int) + 1)] wx fun e w' => e = .returned .nilIface ∧ Again R w1 w' p q up d (fun b => (Value.slice (some ⟨ga, 0, none⟩) k c).ownBlock = some b) ∧ w'.ownsRow w1.heap.size 3 1 (.slice (some ⟨ga, 0, none⟩) k c) up.length (up.map nu)) := fun wx h => by
                have := tu_again HC.out h (by omega) HK.out hd
                rw [hz, show linkS (z : Int) = z from if_pos hzI, show linkB (z : Int) = (z : Int) + 1 from if_pos hzI] at this
                exact this
              have HQ0 := Hid.mk' q0
              have HQ1 := Hid.mk' q1
              have HBA := Hid.mk' hBA
              clear hBA
              go_upto_region 38 with fail
              go_region
              go_upto_region 39 with fail
              have hBW : Below wr.heap.size wr ((wr.alloc (.cells #[nu z, nu ((z : Int) + 1)] 30)).drew) := HBA.out.drew
              have hq0 : ((wr.alloc (.cells #[nu z, nu ((z : Int) + 1)] 30)).drew).cell? ⟨wr.heap.size, 0, none⟩ = some (nu z) := HQ0.out
              have hq1 : ((wr.alloc (.cells #[nu z, nu ((z : Int) + 1)] 30)).drew).cell? ⟨wr.heap.size, 1, none⟩ = some (nu ((z : Int) + 1)) := HQ1.out
              have HA2 := Hid.mk' (HT.out.below HC.out hBW)
              clear hBW HA HQ0 HQ1 q0 q1 hcu0 HT HBA
              generalize (wr.alloc (.cells #[nu z, nu ((z : Int) + 1)] 30)).drew = wA at *
              go_wp2_with fail
              refine (C2.out wA HA2.out).mono ?_
              rintro e w3 ⟨rfl, ⟨A3, l3, s3, k3, n3, m3⟩, ho3⟩
              have HN3 := Hid.mk' n3
              have HM3 := Hid.mk' m3
              have C3 : Hid (Calls Try.prog 8 #[ptr q, nu 1, nun d] w3 fun e w' => ∃ a' c', e = .returned (.slice a' 0 c') ∧ Below w3.heap.size w3 w') := by
                have := (su_list HC.out s3 d ⟨by omega, by omega⟩).2.1
                rw [k3] at this
                exact this.mono (fun e w' ⟨v, h1, h2, h3⟩ => by
                  obtain ⟨a', c', rfl, _⟩ := Nm.own_shape h2
                  exact ⟨a', c', h1, h3⟩)
              have HS3 := Hid.mk' s3
              have HO3 := Hid.mk' ho3
              clear s3 k3 n3 m3 ho3 C2 HA2 hq0 hq1
              go_wp2_with fail
              refine C3.out.mono ?_
              rintro e w4 ⟨a', c', rfl, hb4⟩
              have HS4 := Hid.mk' (HS3.out.below HC.out hb4)
              have HO4 := Hid.mk' (own_bel HO3.out hb4)
              have hl4 : ga < w4.heap.size := (HO4.out.lt ga rfl).2
              have hc4 : w4.cell? ⟨ga, d, none⟩ = some (nu (z : Int)) := by
                have h0 := HO4.out
                rw [HK.out] at h0
                have := h0.cellAt (g := ga) (cap := c) d (by omega)
                rw [this, List.getElem?_map, huv]
                rfl
              have C4 : Hid (Calls Try.prog 12 #[.slice (some ⟨ga, 0, none⟩) k c, nu (z : Int), nun d] w4 fun e w' => ∃ v', e = .returned v' ∧ w'.ownsRow w4.heap.size 3 1 v' (kidsU up (z : Int) d).length ((kidsU up (z : Int) d).map nun) ∧ Below w4.heap.size w4 w') := by
                have hrd := rdJ_own HO4.out
                exact kids_any _ up (z : Int) d w4 hrd (by rw [HK.out]; exact hN32)
              have hkl := kidsU_le up (z : Int) d
              rw [HK.out] at hkl
              have HCU := Hid.mk' hcu
              clear hb4 HS3 HO3 C3 hcu
              go_wp2_with fail
              refine C4.out.mono ?_
              rintro e w5 ⟨v5, rfl, ho5, hb5⟩
              obtain ⟨n5, hn5⟩ : ∃ n5, (kidsU up (z : Int) d).length = n5 := ⟨_, rfl⟩
              rw [hn5] at ho5 hkl
              obtain ⟨a5, c5, rfl, _⟩ := Nm.own_shape ho5
              have HO5 : Hid ((w5.alloc (.cells #[nun d] 3)).ownsRow w4.heap.size 3 1 (.slice a5 n5 c5) n5 ((kidsU up (z : Int) d).map nun)) := ho5.alloc _
              have HB5 : Hid (Below w4.heap.size w4 (w5.alloc (.cells #[nun d] 3))) := hb5.alloc hb5.size _
              have HL5 : Hid (∀ r, (Value.slice a5 n5 c5).ownBlock = some r → w4.heap.size ≤ r) := fun r e => (ho5.lt r e).1
              clear ho5 hb5 C4
              go_upto_region 42 with (first | (at_builtin; refine Nm.wpList_append_keep _ rfl _ _ 22 rfl w4.heap.size 3 i0 (.int .i64 0) 1 8 Try.underlying22 ji hz0 hz1 hz2 rfl (by decide) _ n5 _ rfl HO5.out ⟨w5.heap.size, 0, none⟩ 1 1 [nun d] rfl rfl (cell_one_new _ _ _) (by simp [Value.oneCell']) (by unfold maxLen; omega) (by omega) HB5.out.size (by decide) ?_; intro v6 w6 hg6; obtain ⟨ho6, hgr6, _, _⟩ := hg6; obtain ⟨a6, c6, rfl, _⟩ := Nm.own_shape ho6; have HO6 := Hid.mk' ho6; have HB6 : Hid (Below w4.heap.size w4 w6) := (HB5.out.grown hgr6 HB5.out.size (fun r e => HL5.out r e)); clear ho6 hgr6) | fail)
              have hc6 : w6.cell? ⟨ga, d, none⟩ = some (nu (z : Int)) := (HB6.out.cell (p := ⟨ga, d, none⟩) hl4).trans hc4
              have HS6 := Hid.mk' (HS4.out.below HC.out HB6.out)
              have HR6 : Hid (RdN w6 (.slice a6 (n5 + 1) c6) (kidsU up (z : Int) d ++ [d])) := by
                have := HO6.out
                rw [show [nun d] = [d].map nun from rfl, ← List.map_append] at this
                exact own_rdN this
              clear hc4 HS4 HO4 HO5 HB5 HL5 HO6
              have e2 := HM3.out (by rw [hz]; exact hzI)
              rw [hz] at e2
              have C7 : Hid (Calls Try.prog 8 #[ptr q, nu 1, nu z] w6 fun e w' => ∃ a' c', e = .returned (.slice a' (n5 + 1) c') ∧ RdN w' (.slice a' (n5 + 1) c') (kidsU up z d ++ [d]) ∧ Below w6.heap.size w6 w') := by
                have := (su_list HC.out HS6.out z ⟨by omega, by omega⟩).2.1
                rw [show kidsL A3.sl ((z : Nat) : Int) = kidsU up ((z : Nat) : Int) d ++ [d] from e2] at this
                rw [List.length_append, hn5] at this
                exact this.mono (fun e w' ⟨v, h1, h2, h3⟩ => by
                  obtain ⟨a', c', rfl, _⟩ := Nm.own_shape h2
                  exact ⟨a', c', h1, own_rdN h2, h3⟩)
              have HBE : Hid (Below w.heap.size w w6) := HB1.out.trans (HS6.out.bel.mono HB1.out.size)
              clear e2 HM3 HN3 HS6
              go_wp2_with fail
              refine C7.out.mono ?_
              rintro e w7 ⟨a7, c7, rfl, hr7, hb7⟩
              have C8 := Hid.mk' (sameN _ _ _ w7 hr7 (HR6.out.below hb7))
              have HB7 : Hid (Below w.heap.size w w7) := HBE.out.trans (hb7.mono HBE.out.size)
              clear hb7 C7 hr7
              go_wp2_with fail
              refine C8.out.mono ?_
              rintro e w8 ⟨rfl, hb8⟩
              have HB8 : Hid (Below w.heap.size w w8) := HB7.out.trans (hb8.mono HB7.out.size)
              clear hb8 C8
              go_wp2
              go_ret
              exact ⟨rfl, HB8.out⟩
            · have hu1 : up.getD d 0 = -1 := by omega
              rw [hu1] at huv hcu
              have hBA : Below wr.heap.size wr (wr.alloc (.cells #[nu 0, nu 0] 30)) := (Below.refl _ _).alloc (Nat.le_refl _) _
              have q0 : (wr.alloc (.cells #[nu 0, nu 0] 30)).cell? ⟨wr.heap.size, 0, none⟩ = some (nu 0) := cell_of_row _ _ _ _ _ _ (heap_alloc_new _ _)
              have q1 : (wr.alloc (.cells #[nu 0, nu 0] 30)).cell? ⟨wr.heap.size, 1, none⟩ = some (nu 0) := cell_of_row _ _ _ _ _ _ (heap_alloc_new _ _)
              have HA := Hid.mk' (HT.out.below HC.out hBA)
              have hcu0 : (wr.alloc (.cells #[nu 0, nu 0] 30)).cell? ⟨ga, d, none⟩ = some (nu (-1)) := (((Below.refl _ wr).alloc (Nat.le_refl _) (.cells #[nu 0, nu 0] 30)).cell (p := ⟨ga, d, none⟩) hgl).trans hcu
              have C2 : Hid (∀ wx, TU R w1 wx p q k up up d (k + 8 * k + 8) (.slice (some ⟨ga, 0, none⟩) k c) → Calls Try.prog 7 #[ptr q, nun d, lkU 0 0] wx fun e w' => e = .returned .nilIface ∧ Again R w1 w' p q up d (fun b => (Value.slice (some ⟨ga, 0, none⟩) k c).ownBlock = some b) ∧ w'.ownsRow w1.heap.size 3 1 (.slice (some ⟨ga, 0, none⟩) k c) up.length (up.map nu)) := fun wx h => by
                have := tu_again HC.out h (by omega) HK.out hd
                rw [hu1, show linkS (-1) = 0 by decide, show linkB (-1) = 0 by decide] at this
                exact this
              have HQ0 := Hid.mk' q0
              have HQ1 := Hid.mk' q1
              have HBA := Hid.mk' hBA
              clear hBA
              go_upto_region 39 with fail
              have hBW : Below wr.heap.size wr (wr.alloc (.cells #[nu 0, nu 0] 30)) := HBA.out
              have hq0 : (wr.alloc (.cells #[nu 0, nu 0] 30)).cell? ⟨wr.heap.size, 0, none⟩ = some (nu 0) := HQ0.out
              have hq1 : (wr.alloc (.cells #[nu 0, nu 0] 30)).cell? ⟨wr.heap.size, 1, none⟩ = some (nu 0) := HQ1.out
              have HA2 := Hid.mk' (HT.out.below HC.out hBW)
              clear hBW HA HQ0 HQ1 q0 q1 hcu0 HT HBA
              generalize wr.alloc (.cells #[nu 0, nu 0] 30) = wA at *
              go_wp2_with fail
              refine (C2.out wA HA2.out).mono ?_
              rintro e w3 ⟨rfl, ⟨A3, l3, s3, k3, n3, m3⟩, ho3⟩
              have HN3 := Hid.mk' n3
              have HM3 := Hid.mk' m3
              have C3 : Hid (Calls Try.prog 8 #[ptr q, nu 1, nun d] w3 fun e w' => ∃ a' c', e = .returned (.slice a' 0 c') ∧ Below w3.heap.size w3 w') := by
                have := (su_list HC.out s3 d ⟨by omega, by omega⟩).2.1
                rw [k3] at this
                exact this.mono (fun e w' ⟨v, h1, h2, h3⟩ => by
                  obtain ⟨a', c', rfl, _⟩ := Nm.own_shape h2
                  exact ⟨a', c', h1, h3⟩)
              have HS3 := Hid.mk' s3
              have HO3 := Hid.mk' ho3
              clear s3 k3 n3 m3 ho3 C2 HA2 hq0 hq1
              go_wp2_with fail
              refine C3.out.mono ?_
              rintro e w4 ⟨a', c', rfl, hb4⟩
              have HS4 := Hid.mk' (HS3.out.below HC.out hb4)
              have HO4 := Hid.mk' (own_bel HO3.out hb4)
              have hl4 : ga < w4.heap.size := (HO4.out.lt ga rfl).2
              have hc4 : w4.cell? ⟨ga, d, none⟩ = some (nu (-1)) := by
                have h0 := HO4.out
                rw [HK.out] at h0
                have := h0.cellAt (g := ga) (cap := c) d (by omega)
                rw [this, List.getElem?_map, huv]
                rfl
              have C4 : Hid (Calls Try.prog 12 #[.slice (some ⟨ga, 0, none⟩) k c, nu (-1), nun d] w4 fun e w' => ∃ v', e = .returned v' ∧ w'.ownsRow w4.heap.size 3 1 v' (kidsU up (-1) d).length ((kidsU up (-1) d).map nun) ∧ Below w4.heap.size w4 w') := by
                have hrd := rdJ_own HO4.out
                exact kids_any _ up (-1) d w4 hrd (by rw [HK.out]; exact hN32)
              have hkl := kidsU_le up (-1) d
              rw [HK.out] at hkl
              have HCU := Hid.mk' hcu
              clear hb4 HS3 HO3 C3 hcu
              go_wp2_with fail
              refine C4.out.mono ?_
              rintro e w5 ⟨v5, rfl, ho5, hb5⟩
              obtain ⟨n5, hn5⟩ : ∃ n5, (kidsU up (-1) d).length = n5 := ⟨_, rfl⟩
              rw [hn5] at ho5 hkl
              obtain ⟨a5, c5, rfl, _⟩ := Nm.own_shape ho5
              have HO5 : Hid ((w5.alloc (.cells #[nun d] 3)).ownsRow w4.heap.size 3 1 (.slice a5 n5 c5) n5 ((kidsU up (-1) d).map nun)) := ho5.alloc _
              have HB5 : Hid (Below w4.heap.size w4 (w5.alloc (.cells #[nun d] 3))) := hb5.alloc hb5.size _
              have HL5 : Hid (∀ r, (Value.slice a5 n5 c5).ownBlock = some r → w4.heap.size ≤ r) := fun r e => (ho5.lt r e).1
              clear ho5 hb5 C4
              go_upto_region 42 with (first | (at_builtin; refine Nm.wpList_append_keep _ rfl _ _ 22 rfl w4.heap.size 3 i0 (.int .i64 0) 1 8 Try.underlying22 ji hz0 hz1 hz2 rfl (by decide) _ n5 _ rfl HO5.out ⟨w5.heap.size, 0, none⟩ 1 1 [nun d] rfl rfl (cell_one_new _ _ _) (by simp [Value.oneCell']) (by unfold maxLen; omega) (by omega) HB5.out.size (by decide) ?_; intro v6 w6 hg6; obtain ⟨ho6, hgr6, _, _⟩ := hg6; obtain ⟨a6, c6, rfl, _⟩ := Nm.own_shape ho6; have HO6 := Hid.mk' ho6; have HB6 : Hid (Below w4.heap.size w4 w6) := (HB5.out.grown hgr6 HB5.out.size (fun r e => HL5.out r e)); clear ho6 hgr6) | fail)
              have hc6 : w6.cell? ⟨ga, d, none⟩ = some (nu (-1)) := (HB6.out.cell (p := ⟨ga, d, none⟩) hl4).trans hc4
              have HS6 := Hid.mk' (HS4.out.below HC.out HB6.out)
              have HR6 : Hid (RdN w6 (.slice a6 (n5 + 1) c6) (kidsU up (-1) d ++ [d])) := by
                have := HO6.out
                rw [show [nun d] = [d].map nun from rfl, ← List.map_append] at this
                exact own_rdN this
              clear hc4 HS4 HO4 HO5 HB5 HL5 HO6
              obtain ⟨e1, e2⟩ := HN3.out (by omega)
              have C7 : Hid (Calls Try.prog 8 #[ptr q, nu 0, nu 0] w6 fun e w' => ∃ a' c', e = .returned (.slice a' (n5 + 1) c') ∧ RdN w' (.slice a' (n5 + 1) c') (kidsU up (-1) d ++ [d]) ∧ Below w6.heap.size w6 w') := by
                have := (su_list HC.out HS6.out 0 ⟨by omega, by omega⟩).1
                rw [e2] at this
                rw [List.length_append, hn5] at this
                exact this.mono (fun e w' ⟨v, h1, h2, h3⟩ => by
                  obtain ⟨a', c', rfl, _⟩ := Nm.own_shape h2
                  exact ⟨a', c', h1, own_rdN h2, h3⟩)
              have C9 : Hid (∀ wx, Below w6.heap.size w6 wx → Calls Try.prog 9 #[ptr q] wx fun e w' => e = .returned (nun d) ∧ Below w.heap.size w w') := fun wx hx => by
                have h0 := HS6.out.below HC.out hx
                have := last_su HC.out h0
                rw [e1] at this
                exact this.mono (fun e w' h1 => ⟨h1.1, HB1.out.trans ((h0.bel.trans (h1.2.mono h0.bel.size)).mono HB1.out.size)⟩)
              clear e1 e2 HM3 HN3 HS6
              go_wp2_with fail
              refine C7.out.mono ?_
              rintro e w7 ⟨a7, c7, rfl, hr7, hb7⟩
              have C8 := Hid.mk' (sameN _ _ _ w7 hr7 (HR6.out.below hb7))
              have HB7 := Hid.mk' hb7
              clear hb7 C7 hr7
              go_wp2_with fail
              refine C8.out.mono ?_
              rintro e w8 ⟨rfl, hb8⟩
              have D9 := Hid.mk' (C9.out w8 (HB7.out.trans (hb8.mono HB7.out.size)))
              clear hb8 C8 C9
              go_wp2_with fail
              refine D9.out.mono ?_
              rintro e w9 ⟨rfl, hb9⟩
              have HB9 := Hid.mk' hb9
              clear hb9 D9
              go_wp2
              go_ret
              exact ⟨rfl, HB9.out⟩
end Tr
end Go.Proofs.Ytcleeidfiaafcaa
