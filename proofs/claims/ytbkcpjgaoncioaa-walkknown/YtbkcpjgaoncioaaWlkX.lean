/- The program's walk: Path; what the program must answer is met. -/
import Derived.Test.YtbkcpjgaoncioaaWlkW
import Derived.Test.YtbkcpjgaoncioaaArnG
namespace Go.Proofs.Ytbkcpjgaoncioaa
set_option linter.ambiguousOpen false
open Go.RowKit
namespace Wk
open An Ft Lv
set_option linter.unusedSimpArgs false
set_option linter.unusedVariables false

theorem own_oneI (w : World) (x : Nat) : (w.alloc (.cells #[nun x] 3)).ownsRow w.heap.size 3 1 (.slice (some ⟨w.heap.size, 0, none⟩) 1 1) 1 ([x].map nun) :=
  ⟨rfl, .inr ⟨w.heap.size, 1, #[nun x], rfl, Nat.le_refl _, heap_alloc_new _ _, Nat.le_refl _, by unfold maxLen; omega, rfl, rfl⟩⟩

theorem own_grownO {w w' : World} {base n r : Nat} {v : Value} {xs : List Value} (h : w.ownsRow base 3 1 v n xs) (hg : w.grownBy w' (some r)) (hn : v.ownBlock ≠ some r) : w'.ownsRow base 3 1 v n xs :=
  ((Keep.refl (fun k => k = r) w).grown hg (fun k e => .inl (Option.some.inj e).symm)).own h (fun k hk e => hn (by rw [hk, e]))

theorem up_live : ∀ (f : Nat) (S : List Slt) (s b : Int), (up f S s b).2 = true → hold S s b ∧ (up f S s b).1[0]? = some s.toNat
  | 0, S, s, b, h => by simp [up] at h
  | f + 1, S, s, b, h => by
    by_cases hh : hold S s b
    · by_cases h0 : (atW S s).s.ub = 0
      · rw [up_top f S s b hh h0]
        exact ⟨hh, rfl⟩
      · rw [up_on f S s b hh h0]
        exact ⟨hh, rfl⟩
    · rw [up_no f S s b hh] at h
      simp at h

/-- One more. -/
theorem up_next (f : Nat) (S : List Slt) (s b : Int) (L : List Nat) (k : Nat) (he : up (f + 1) S s b = (L.drop k, true)) (hk : k + 1 < L.length) :
    hold S s b ∧ up f S (atW S s).s.us (atW S s).s.ub = (L.drop (k + 1), true) ∧ 0 ≤ (atW S s).s.us ∧ L[k + 1]? = some (atW S s).s.us.toNat := by
  have h1 := up_live (f + 1) S s b (by rw [he])
  have hh := h1.1
  have hd : (L.drop k).length = L.length - k := List.length_drop
  by_cases h0 : (atW S s).s.ub = 0
  · rw [up_top f S s b hh h0] at he
    have := congrArg (fun q => q.1.length) he
    simp at this
    omega
  · rw [up_on f S s b hh h0] at he
    have e1 : s.toNat :: (up f S (atW S s).s.us (atW S s).s.ub).1 = L.drop k := congrArg Prod.fst he
    have e2 : (up f S (atW S s).s.us (atW S s).s.ub).2 = true := congrArg Prod.snd he
    have e3 : (up f S (atW S s).s.us (atW S s).s.ub).1 = L.drop (k + 1) := by
      have := congrArg List.tail e1
      simpa using this
    have h2 := up_live f S _ _ e2
    rw [e3, List.getElem?_drop, Nat.add_zero] at h2
    exact ⟨hh, Prod.ext e3 e2, h2.1.1.1, h2.2⟩

/-- Amid Path. -/
structure Pw (w0 w : World) (S : List Slt) (lb : Nat) (L : List Nat) (k : Nat) (v : Value) (s b : Int) : Prop where
  bel : Below w0.heap.size w0 w
  ln : Lnl w lb s b
  own : w.ownsRow w0.heap.size 3 1 v (k + 1) ((L.take (k + 1)).map nun)
  eq : up (7 - k) S s b = (L.drop k, true)

section
variable {Rep : World → Nat → (Nat → Prop) → Arn → Prop}

set_option maxRecDepth 100000 in
set_option maxHeartbeats 4000000 in
theorem path_p (H : KeepC Rep) (G : GetU Rep) (w : World) (p : Nat) (F : Nat → Prop) (A : Arn) (us ub : Int) (h : Rep w p F A) (hg : An.Good A) :
    Calls Try.prog 11 #[ptr p, lkU us ub] w fun e w' => ∃ v, e = .returned v ∧ w'.ownsRow w.heap.size 3 1 v (pth A.sl us ub).length ((pth A.sl us ub).map nun) ∧ Below w.heap.size w w' := by
  obtain ⟨i0, ji, hz0, hz1, hz2⟩ := info_parts info_int
  have hB0 : Below w.heap.size w (w.alloc (.cells #[nu us, nu ub] 33)) := (Below.refl _ _).alloc (Nat.le_refl _) _
  have hL0 := lnl_new w us ub
  obtain ⟨lb, hlb⟩ : ∃ lb, w.heap.size = lb := ⟨_, rfl⟩
  obtain ⟨W0, hW0⟩ : ∃ W0, w.alloc (.cells #[nu us, nu ub] 33) = W0 := ⟨_, rfl⟩
  rw [hW0] at hB0 hL0
  rw [hlb] at hL0
  have HW0 := Hid.mk' hW0
  have HLB := Hid.mk' hlb
  have hle : w.heap.size ≤ lb := by omega
  obtain ⟨x0, x1, xf⟩ := hL0.cells
  have HL0 := Hid.mk' hL0
  have HB0 := Hid.mk' hB0
  have cL := Hid.mk' (lives_p H G W0 p F A us ub (H.below h hB0) hg)
  have hlen := up_len 7 A.sl us ub
  have hlive := up_live 7 A.sl us ub
  have hpos := up_pos 7 A.sl us ub
  obtain ⟨P, hP⟩ : ∃ P, up 7 A.sl us ub = P := ⟨_, rfl⟩
  unfold livB livN at cL
  unfold pth
  rw [hP] at cL hlen hlive hpos ⊢
  obtain ⟨L, ok⟩ := P
  dsimp only at cL hlen hlive hpos ⊢
  cases ok with
  | false =>
    rw [if_neg (by decide)] at cL ⊢
    clear h hg hB0 hL0 hW0 hlb H G hP hlive hpos
    go_enter Try.func11, Try.ntmps11
    go_upto_region 1 with fail
    rw [HW0.out, HLB.out]
    go_wp2_with fail
    refine cL.out.mono ?_
    rintro e w1 ⟨rfl, hb1⟩
    have HB1 : Hid (Below w.heap.size w w1) := HB0.out.trans (hb1.mono HB0.out.size)
    clear hb1 x0 x1 xf cL
    go_wp2
    go_ret
    exact ⟨_, rfl, World.ownsRow_nil _ _ _ _, HB1.out⟩
  | true =>
    rw [if_pos rfl] at cL ⊢
    have hp1 := hpos rfl
    obtain ⟨hh, hfst⟩ := hlive rfl
    obtain ⟨n, hn⟩ : ∃ n, L.length = n + 1 := ⟨L.length - 1, by omega⟩
    rw [hn, Nat.add_sub_cancel] at cL
    rw [hn]
    have hn6 : n ≤ 6 := by omega
    have ht := hh.1
    obtain ⟨u, rfl⟩ : ∃ u : Nat, us = (u : Int) := ⟨us.toNat, by omega⟩
    have hT1 : L.take (0 + 1) = [u] := by
      cases L with
      | nil => simp at hn
      | cons a L => simpa using hfst
    have HT1 := Hid.mk' hT1
    have HP := Hid.mk' hP
    have HN := Hid.mk' hn
    have cH : Hid (∀ wx s b', Below w.heap.size w wx → hold A.sl s b' → Calls Try.prog 28 #[ptr p, lkU s b'] wx fun e w' => e = .returned (.tuple #[sesV (atW A.sl s).s, .bool true]) ∧ Below wx.heap.size wx w') := fun wx s b' hb hx => by
      have := held_p H G wx p F A s b' (H.below h hb) hg
      rwa [decide_eq_true hx, heldS, if_pos hx] at this
    clear h hg hB0 hL0 hW0 hlb H G hP hlive hpos hh ht hT1 hfst hlen hn hp1
    go_enter Try.func11, Try.ntmps11
    go_upto_region 1 with fail
    rw [HW0.out, HLB.out]
    go_wp2_with fail
    refine cL.out.mono ?_
    rintro e w1 ⟨rfl, hb1⟩
    have HB1 : Hid (Below w.heap.size w w1) := HB0.out.trans (hb1.mono HB0.out.size)
    have HL1 := Hid.mk' (HL0.out.below hb1)
    clear hb1 x0 x1 xf cL
    obtain ⟨x0, x1, xf⟩ := HL1.out.cells
    go_upto_region 5 with fail
    have HP0 : Hid (Pw w (w1.alloc (.cells #[nun u] 3)) A.sl lb L 0 (.slice (some ⟨w1.heap.size, 0, none⟩) 1 1) u ub) := ⟨HB1.out.alloc HB1.out.size _, (heap_alloc_old _ _ HL1.out.lt).trans HL1.out, by rw [HT1.out]; exact own_monoA (own_oneI w1 u) HB1.out.size, HP.out⟩
    generalize w1.alloc (.cells #[nun u] 3) = w1' at *
    clear HL1 x0 x1 xf HB1 HT1 HP HL0 HB0
    go_wp2
    go_loopw [7, 22] (fun pv kv wr => ∃ (k : Nat) (a : Option Addr) (c : Nat), k ≤ n ∧ kv = nun k ∧ pv = .slice a (k + 1) c ∧ Hid (∃ s b', Pw w wr A.sl lb L k (.slice a (k + 1) c) s b')) (fun _ kv _ => n - (intOf kv).toNat)
    case atStart => exact ⟨0, some ⟨w1.heap.size, 0, none⟩, 1, by omega, rfl, rfl, u, ub, HP0.out⟩
    case round =>
      obtain ⟨k, a, c, hk, rfl, rfl, HR⟩ := hrel
      obtain ⟨s, b', hU⟩ := HR.out
      clear HR HP0
      by_cases hkn : k < n
      · have hkI : (k : Int) < (n : Int) := by omega
        obtain ⟨f, hf⟩ : ∃ f, 7 - k = f + 1 := ⟨6 - k, by omega⟩
        have hf2 : 7 - (k + 1) = f := by omega
        have hEq := hU.eq
        rw [hf] at hEq
        obtain ⟨hh, hE2, hE3, hE4⟩ := up_next f A.sl s b' L k hEq (by rw [HN.out]; omega)
        obtain ⟨x0, x1, xf⟩ := hU.ln.cells
        have c1 := Hid.mk' (cH.out wr s b' hU.bel hh)
        obtain ⟨y, hy⟩ : ∃ y, (atW A.sl s).s = y := ⟨_, rfl⟩
        rw [hy] at c1 hE2 hE3 hE4
        obtain ⟨m, hm⟩ : ∃ m : Nat, y.us = (m : Int) := ⟨y.us.toNat, by omega⟩
        rw [hm, Int.toNat_natCast] at hE4
        rw [← hf2] at hE2
        have hTk : L.take (k + 1 + 1) = L.take (k + 1) ++ [m] := by
          rw [List.take_add_one, hE4]
          rfl
        have HTK := Hid.mk' hTk
        have HE2 := Hid.mk' hE2
        have HU := Hid.mk' hU
        clear hU hEq hh hE2 hE3 hE4 hy hTk hf hf2
        go_wp2_with fail
        refine c1.out.mono ?_
        rintro e w2 ⟨rfl, hb2⟩
        have HB2 : Hid (Below w.heap.size w w2) := HU.out.bel.trans (hb2.mono HU.out.bel.size)
        have HL2 := Hid.mk' (HU.out.ln.below hb2)
        have HO2 := Hid.mk' ((Keep.of_below (F := fun _ => False) hb2).own HU.out.own (fun _ _ h => h))
        have hl2 := HL2.out.lt
        have HZ := Hid.mk' (loneS_zero w2)
        have HBZ : Hid (Below w.heap.size w (w2.alloc (.cells sesQ 50))) := HB2.out.alloc HB2.out.size _
        have HLZ : Hid (Lnl (w2.alloc (.cells sesQ 50)) lb s b') := (heap_alloc_old _ _ hl2).trans HL2.out
        have HOZ := Hid.mk' (HO2.out.alloc (.cells sesQ 50))
        clear hb2 c1 x0 x1 xf
        go_upto_region 9 with (first | (refine wpList_store_loneS rfl _ _ rfl w2.heap.size rfl y rfl ses0 HZ.out ?_; intro w3 hl3 hg3 hs3; have HS3 := Hid.mk' hl3; have HB3 : Hid (Below w.heap.size w w3) := (HBZ.out.grown hg3 HBZ.out.size (fun r e => by cases e; exact HB2.out.size)); have HL3 : Hid (Lnl w3 lb s b') := lnl_grown HLZ.out hg3 (by omega); have HO3 := Hid.mk' (own_grownO HOZ.out hg3 (fun e => Nat.lt_irrefl _ (HO2.out.lt _ e).2)); clear hl3 hg3 hs3) | (refine wpList_load_lnl rfl _ rfl w2.heap.size 2 rfl y.us y.ub HS3.out.up ?_) | (refine wpList_store_lnl rfl _ _ rfl lb rfl y.us y.ub rfl s b' HL3.out ?_; intro w5 hl5 hg5 hs5; have HL5 := Hid.mk' hl5; have HB5 : Hid (Below w.heap.size w w5) := (HB3.out.grown hg5 HB3.out.size (fun r e => by cases e; exact hle)); have HO5 := Hid.mk' (own_grownO HO3.out hg5 (own_notlink HO3.out HL3.out)); clear hl5 hg5 hs5) | fail)
        rw [hm] at HL5
        clear HS3 HB3 HL3 HO3 HZ HBZ HLZ HOZ HB2 HL2 HO2 HU
        obtain ⟨x0, x1, xf⟩ := HL5.out.cells
        have hs5 := HB5.out.size
        go_wp2_with (first | (at_builtin;  refine wpList_append_own _ rfl _ _ 35 rfl w.heap.size 3 i0 (.int .i64 0) 1 8 Try.underlying35 ji hz0 hz1 hz2 rfl (by decide) _ _ _ rfl (HO5.out.alloc _) ⟨w5.heap.size, 0, none⟩ 1 1 [nun m] rfl rfl (cell_one_new _ _ _) (by simp [Value.oneCell']) (by unfold maxLen; omega) (by omega) (by simp; omega) ?_; intro v6 w6 ho6 hg6 _; have hb6 : Below w.heap.size w w6 := Below.grown (HB5.out.alloc HB5.out.size _) hg6 (by have := HB5.out.size; simp; omega) (fun k hk => (HO5.out.lt k hk).1); have HL6 : Hid (Lnl w6 lb (m : Int) y.ub) := ((hg6.block lb (by rw [World.size_alloc]; have := HL5.out.lt; omega) (fun e => own_notlink HO5.out HL5.out e.symm)).trans ((heap_alloc_old _ _ HL5.out.lt).trans HL5.out)); obtain ⟨g6, c6, rfl⟩ := ownsRow_succ ho6; have HO6 := Hid.mk' ho6; have HB6 := Hid.mk' hb6; clear ho6 hg6 hb6) | fail)
        go_roundw
        case rel => exact ⟨k + 1, _, c6, by omega, by go_num, rfl, m, y.ub, HB6.out, HL6.out, by rw [HTK.out, List.map_append]; exact HO6.out, by rw [← hm]; exact HE2.out⟩
        case measure => simp [intOf]; omega
      · obtain rfl : k = n := by omega
        have hkI : ¬ (k : Int) < (k : Int) := by omega
        have HO : Hid (wr.ownsRow w.heap.size 3 1 (.slice a (k + 1) c) (k + 1) (L.map nun)) := by
          have := hU.own
          rw [List.take_of_length_le (by rw [HN.out]; exact Nat.le_refl _)] at this
          exact this
        have HB := Hid.mk' hU.bel
        clear hU cH
        go_wp2
        go_ret
        exact ⟨_, rfl, HO.out, HB.out⟩

theorem walkC (H : KeepC Rep) (G : GetU Rep) : WalkC Rep := ⟨fun w p F A us ub h hg _ _ => lives_p H G w p F A us ub h hg, fun w p F A us ub h hg _ _ => path_p H G w p F A us ub h hg⟩
end

theorem walkP : WalkC RepP := walkC keepP get_u
end Wk
end Go.Proofs.Ytbkcpjgaoncioaa
