/- WalkAbove: out of the contracts. -/
import Derived.Test.YtbkcpjgaoncioaaWlkJ
namespace Go.Proofs.Ytbkcpjgaoncioaa
set_option linter.ambiguousOpen false
open Go.RowKit
namespace Wk
open An Ft Lv
set_option linter.unusedSimpArgs false
set_option linter.unusedVariables false

/-- What stands at the turned slot, at most. -/
theorem birth_ln {L : List Nat} (hnd : L.Nodup) (hlt : ∀ x ∈ L, x < 32) (h7 : L.length ≤ 7) (t : Nat) (ht : t < 32) : -1000000 ≤ (atW (lnS L L.length) t).s.birth ∧ (atW (lnS L L.length) t).s.birth ≤ 1000000 := by
  have key : ∀ n, n ≤ L.length → -1000000 ≤ ((lnS L n).getD t bare).s.birth ∧ ((lnS L n).getD t bare).s.birth ≤ 1000000 := fun n => by
    induction n with
    | zero =>
      intro _
      have e : (lnS L 0).getD t bare = bare := by
        show (List.replicate 32 bare).getD t bare = bare
        rw [List.getD_eq_getElem?_getD, List.getElem?_replicate, if_pos ht]
        rfl
      rw [e]
      exact ⟨by decide, by decide⟩
    | succ n ih =>
      intro h1
      rw [lnS, get_setW (lnS_len L n) _ _ _ (getD_lt hlt n)]
      split
      · show -1000000 ≤ (10 + (n : Int)) ∧ (10 + (n : Int)) ≤ 1000000
        omega
      · exact ih (by omega)
  have := key L.length (Nat.le_refl _)
  unfold atW
  rw [Int.toNat_natCast]
  exact this

theorem lin_harm {L : List Nat} (hnd : L.Nodup) (hlt : ∀ x ∈ L, x < 32) (h7 : L.length ≤ 7) (t : Nat) (ht : t < 32) (m : Nat) (hm : m < 4) :
    Lin ((lnS L L.length).set t (harmS (atW (lnS L L.length) t) m)) (fun k => L.getD k 0) L.length (fun k => !(decide (m < 3) && decide (L.getD k 0 = t))) := by
  refine lin_turn hnd hlt t ht _ _ (fun k hk e => ?_)
  have ea := lnS_at hnd hlt L.length (Nat.le_refl _) k hk
  rw [e] at ea
  rw [ea, e]
  refine ⟨fun hy => ?_, fun hy => ?_⟩
  · have h3 : m = 3 := by have : ¬ m < 3 := of_decide_eq_false hy; omega
    subst h3
    rfl
  · have h3 : m < 3 := of_decide_eq_true hy
    rcases (show m = 0 ∨ m = 1 ∨ m = 2 by omega) with rfl | rfl | rfl
    · rintro ⟨h, _⟩
      have h' : false = true := h
      cases h'
    · rintro ⟨_, h, _⟩
      have h' : true = false := h
      cases h'
    · rintro ⟨_, _, h⟩
      have h' : (10 + (k : Int)) + 1000 = 10 + (k : Int) := h
      omega

set_option maxRecDepth 100000 in
set_option maxHeartbeats 8000000 in
theorem walkAbove_yes {Rep : World → Nat → (Nat → Prop) → Arn → Prop} (H : KeepC Rep) (CN : NewC Rep) (CP : PutC Rep) (CG : GetC Rep) (C : WalkC Rep) (v : Value) (l : List Int) (ha hk : Int) (w : World) (hR : RdW w v l) (hl : ∀ x ∈ l, I64 x) (hai : I64 ha) (hki : I64 hk) :
    Calls Try.prog 4 #[v, lkU ha hk] w fun e w' => e = .returned (.bool true) ∧ Below w.heap.size w w' := by
  have hB0 : Below w.heap.size w (w.alloc (.cells #[nu ha, nu hk] 42)) := (Below.refl _ _).alloc (Nat.le_refl _) _
  have hc0 : (w.alloc (.cells #[nu ha, nu hk] 42)).cell? ⟨w.heap.size, 0, none⟩ = some (nu ha) ∧ (w.alloc (.cells #[nu ha, nu hk] 42)).cell? ⟨w.heap.size, 1, none⟩ = some (nu hk) := by
    have h9 : (w.alloc (.cells #[nu ha, nu hk] 42)).heap[w.heap.size]? = some (.cells #[nu ha, nu hk] 42) := heap_alloc_new _ _
    exact ⟨by rw [cell_of_row _ _ 0 _ _ _ h9]; rfl, by rw [cell_of_row _ _ 1 _ _ _ h9]; rfl⟩
  obtain ⟨hb, hhb⟩ : ∃ hb, w.heap.size = hb := ⟨_, rfl⟩
  obtain ⟨W0, hW0⟩ : ∃ W0, w.alloc (.cells #[nu ha, nu hk] 42) = W0 := ⟨_, rfl⟩
  have hsz : hb < W0.heap.size := by rw [← hW0, ← hhb]; simp
  rw [hW0, hhb] at hc0
  rw [hW0] at hB0
  have HW0 := Hid.mk' hW0
  have HHB := Hid.mk' hhb
  have HB0 := Hid.mk' hB0
  have HHX : Hid (∀ wx, Below W0.heap.size W0 wx → wx.cell? ⟨hb, 0, none⟩ = some (nu ha) ∧ wx.cell? ⟨hb, 1, none⟩ = some (nu hk)) := fun wx hbx => ⟨(hbx.cell (p := ⟨hb, 0, none⟩) hsz).trans hc0.1, (hbx.cell (p := ⟨hb, 1, none⟩) hsz).trans hc0.2⟩
  have hR0 : RdW W0 v l := by
    obtain ⟨a, cap, h1, h2, h3, h4⟩ := hR
    refine ⟨a, cap, h1, h2, h3, fun h0 => ?_⟩
    obtain ⟨g, o, e1, e2, e3⟩ := h4 h0
    exact ⟨g, o, e1, Nat.lt_of_lt_of_le e2 hB0.size, fun k i hi => (hB0.cell (p := ⟨g, o + k, none⟩) e2).trans (e3 k i hi)⟩
  obtain ⟨av, cv, hve, _⟩ := id hR0
  have c1 : Hid (Calls Try.prog 15 #[v] W0 fun e w' => ∃ (a : Option Addr) (n c : Nat), e = .returned (.slice a n c) ∧ Hid (∃ L : List Nat, L.length = n ∧ w'.ownsRow W0.heap.size 3 1 (.slice a n c) n (L.map nun) ∧ L.Nodup ∧ (∀ x ∈ L, x < 32) ∧ L.length ≤ 7 ∧ Below W0.heap.size W0 w')) := by
    refine (slots_any v l W0 hR0 hl).mono ?_
    rintro e w' ⟨v', L, rfl, h1, h2, h3, h4, h5⟩
    obtain ⟨a, c, rfl, _⟩ := Nm.own_shape h1
    exact ⟨a, _, c, rfl, L, rfl, h1, h2, h3, h4, h5⟩
  rw [hve] at c1
  subst hve
  have c2 : Hid (∀ wx v' (L : List Nat), RdN wx v' L → (∀ x ∈ L, x < 32) → L.length ≤ 7 → Calls Try.prog 16 #[v'] wx fun e w' => ∃ p, e = .returned (ptr p) ∧ Hid (∃ F, Rep w' p F ⟨lnS L L.length, arn0.fr, L.length⟩ ∧ (∀ j, F j → wx.heap.size ≤ j) ∧ Below wx.heap.size wx w')) := fun wx v' L h1 h2 h3 => by
    refine (line_any H CN CP v' L wx h1 h2 h3).mono ?_
    rintro e w' ⟨p, F, rfl, h⟩
    exact ⟨p, rfl, F, h⟩
  have cWk : Hid (∀ wx, Calls Try.prog 17 #[] wx fun e w' => e = .returned (.bool true) ∧ Hid (Below wx.heap.size wx w')) := fun wx => works_any H CN CP C wx
  obtain ⟨t, htt, ht32⟩ : ∃ t : Nat, ha % 32 = t ∧ t < 32 := ⟨(ha % 32).toNat, by omega, by omega⟩
  have cK : Hid (∀ wx, Calls Try.prog 18 #[nu ha, nu 32] wx fun e w' => e = .returned (nun t) ∧ w' = wx) := fun wx => by
    have := pickW ha 32 wx (by decide) (by decide) hai
    rw [show ((32 : Nat) : Int) = 32 from rfl, htt] at this
    exact this
  have cG : Hid (∀ wx p F (A : Arn), Rep wx p F A → An.Good A → Calls Try.prog 19 #[ptr p, nun t] wx fun e w' => e = .returned (.tuple #[(atW A.sl t).v, .nilIface]) ∧ Hid (Below wx.heap.size wx w')) := fun wx p F A h hg => by
    have := CG wx p F A t h hg (by omega)
    unfold Arn.at Arn.atE at this
    rw [if_pos (by omega), if_pos (by omega)] at this
    exact this
  have cH : Hid (∀ wx (x : Slt), -1000000 ≤ x.s.birth ∧ x.s.birth ≤ 1000000 → Calls Try.prog 20 #[x.v, nu hk] wx fun e w' => ∃ m : Nat, e = .returned (.tuple #[(harmS x m).v, .bool (decide (m < 3))]) ∧ Hid (m < 4 ∧ Below wx.heap.size wx w')) := fun wx x hx => by
    refine (harmed_any x hk wx hki hx).mono ?_
    rintro e w' ⟨m, hm, rfl, hb'⟩
    exact ⟨m, rfl, hm, hb'⟩
  have cP : Hid (∀ wx p F (A : Arn) (y : Slt), Rep wx p F A → An.Good A → A.wr ≤ 1000 → Calls Try.prog 21 #[ptr p, nun t, y.v] wx fun e w' => e = .returned .nilIface ∧ Hid (An.Left Rep wx w' p F ⟨A.sl.set t y, A.fr, A.wr + 1⟩)) := fun wx p F A y h hg hw => by
    have := CP wx p F A t y h hg (by omega) (by omega)
    unfold Arn.put at this
    rw [if_pos (by omega)] at this
    simp only [Int.toNat_natCast] at this
    exact this
  have cL : Hid (∀ wx p F (A : Arn) s b, Rep wx p F A → An.Good A → I64 s ∧ I64 b → Calls Try.prog 9 #[ptr p, lkU s b] wx fun e w' => e = .returned (.tuple #[.bool (livB A.sl s b), nun (livN A.sl s b)]) ∧ Hid (Below wx.heap.size wx w')) := fun wx p F A s b h hg hi => C.lives wx p F A s b h hg hi.1 hi.2
  have HH := Hid.mk' H
  clear hR hl hai hki hB0 hc0 hhb hW0 hsz hR0 H CN CP CG C htt
  go_enter Try.func4, Try.ntmps4
  go_upto_region 1 with fail
  rw [HW0.out, HHB.out]
  go_wp2_with fail
  refine c1.out.mono ?_
  rintro e w1 ⟨a1, n, d1, rfl, hQ1⟩
  obtain ⟨L, hLn, hO1, hnd, hlt, h7, hb1⟩ := hQ1.out
  have C2 := Hid.mk' (c2.out w1 _ L (own_rdN hO1) hlt h7)
  rw [hLn] at C2
  have HLn := Hid.mk' hLn
  have hn7 : n ≤ 7 := by omega
  have HO1 := Hid.mk' hO1
  have HND := Hid.mk' hnd
  have HLT := Hid.mk' hlt
  have HBB1 := Hid.mk' hb1
  clear hLn hO1 hnd hlt h7 hb1 hQ1 c1 c2 HW0 HHB
  go_wp2_with fail
  refine C2.out.mono ?_
  rintro e w2 ⟨p, rfl, hQ2⟩
  obtain ⟨F2, hr2, hf2, hb2⟩ := hQ2.out
  have HR2 := Hid.mk' hr2
  have HF2 := Hid.mk' hf2
  have HB2 : Hid (Below W0.heap.size W0 w2) := HBB1.out.trans (hb2.mono HBB1.out.size)
  have HO2 := Hid.mk' ((Keep.of_below (F := fun _ => False) hb2).own HO1.out (fun _ _ h => h))
  have HFR : Hid (∀ k, (Value.slice a1 n d1).ownBlock = some k → ¬ F2 k) := fun k e hk2 => by
    have h1 := (HO1.out.lt k e).2
    have h2 := hf2 k hk2
    omega
  have HFH : Hid (∀ k, F2 k → W0.heap.size ≤ k) := fun k hk2 => Nat.le_trans HBB1.out.size (hf2 k hk2)
  clear hr2 hf2 hb2 hQ2 C2 HO1
  go_wp2_with fail
  refine (cWk.out _).mono ?_
  rintro e w3 ⟨rfl, hb3⟩
  have HB3 : Hid (Below W0.heap.size W0 w3) := HB2.out.trans (hb3.out.mono HB2.out.size)
  have HR3 := Hid.mk' (HH.out.below HR2.out hb3.out)
  have HO3 := Hid.mk' ((Keep.of_below (F := fun _ => False) hb3.out).own HO2.out (fun _ _ h => h))
  clear hb3 HR2 HO2 HB2
  by_cases hn0 : n = 0
  · subst hn0
    clear cG cH cP cL cK HO3 HR3 HFR HFH
    go_wp2_with fail
    refine (cWk.out _).mono ?_
    rintro e w4 ⟨rfl, hb4⟩
    go_wp2
    go_ret
    exact ⟨rfl, HB0.out.trans ((HB3.out.trans (hb4.out.mono HB3.out.size)).mono HB0.out.size)⟩
  · have hnI : ((n : Int) == 0) = false := by simp; omega
    have hgd : An.Good ⟨lnS L n, arn0.fr, n⟩ := ⟨lnS_len L n, good0.nd, good0.lt⟩
    have hbr := birth_ln HND.out HLT.out (by rw [HLn.out]; exact hn7) t ht32
    have hlin := fun m hm => lin_harm HND.out HLT.out (by rw [HLn.out]; exact hn7) t ht32 m hm
    rw [HLn.out] at hbr
    simp only [HLn.out] at hlin
    have HLIN := Hid.mk' hlin
    obtain ⟨x, hx⟩ : ∃ x, atW (lnS L n) t = x := ⟨_, rfl⟩
    have C4 : Hid (∀ wx, Below w3.heap.size w3 wx → Calls Try.prog 19 #[ptr p, nun t] wx fun e w' => e = .returned (.tuple #[x.v, .nilIface]) ∧ Hid (Below wx.heap.size wx w')) := fun wx hbx => by
      have := cG.out wx p F2 _ (HH.out.below HR3.out hbx) hgd
      dsimp only at this
      rw [hx] at this
      exact this
    rw [hx] at hbr HLIN
    have C5 : Hid (∀ wx, _) := fun wx => cH.out wx x hbr
    obtain ⟨q0, q1⟩ := HHX.out w3 HB3.out
    have HLE : Hid (w.heap.size ≤ W0.heap.size) := HB0.out.size
    clear hlin hbr hx cG cH cWk
    go_wp2_with fail
    refine (cK.out _).mono ?_
    rintro e w4 ⟨rfl, hw4⟩
    subst hw4
    clear cK
    go_wp2_with fail
    refine (C4.out _ (Below.refl _ _)).mono ?_
    rintro e w5 ⟨rfl, hb5⟩
    have HZ5 := Hid.mk' (lone_zero w5)
    have HB5 : Hid (Below w4.heap.size w4 w5) := hb5.out
    have HBZ5 : Hid (Below w4.heap.size w4 (w5.alloc (.cells sltZ 52))) := HB5.out.alloc HB5.out.size _
    clear hb5 C4 q0 q1
    go_upto_region 9 with (first | (refine wpList_store_lone rfl _ _ rfl w5.heap.size rfl x rfl slt0 HZ5.out ?_; intro w6 hl6 hg6 hs6; have HL6 := Hid.mk' hl6; have HB6 : Hid (Below w4.heap.size w4 w6) := (HBZ5.out.grown hg6 HBZ5.out.size (fun r e => by cases e; exact HB5.out.size)); clear hl6 hg6 hs6) | fail)
    have HX6 := Hid.mk' HL6.out.range
    obtain ⟨q0, q1⟩ := HHX.out w6 (HB3.out.trans (HB6.out.mono HB3.out.size))
    clear HZ5 HBZ5 HB5 HL6
    go_wp2_with (first | (refine wpList_load_slt rfl _ rfl w5.heap.size 0 rfl x HX6.out ?_) | fail)
    refine (C5.out _).mono ?_
    rintro e w7 ⟨m, rfl, hQ7⟩
    have HB7 : Hid (Below w4.heap.size w4 w7) := HB6.out.trans (hQ7.out.2.mono HB6.out.size)
    have hm4 := hQ7.out.1
    have HZ7 := Hid.mk' (lone_zero w7)
    have HBZ7 : Hid (Below w4.heap.size w4 (w7.alloc (.cells sltZ 52))) := HB7.out.alloc HB7.out.size _
    have HLI := Hid.mk' (HLIN.out m hm4)
    clear q0 q1 HX6 hQ7 C5 HLIN HB6
    obtain ⟨y, hy⟩ : ∃ y, harmS x m = y := ⟨_, rfl⟩
    rw [hy] at HLI ⊢
    go_upto_region 10 with (first | (refine wpList_store_lone rfl _ _ rfl w7.heap.size rfl y rfl slt0 HZ7.out ?_; intro w8 hl8 hg8 hs8; have HL8 := Hid.mk' hl8; have HB8 : Hid (Below w4.heap.size w4 w8) := (HBZ7.out.grown hg8 HBZ7.out.size (fun r e => by cases e; exact HB7.out.size)); clear hl8 hg8 hs8) | fail)
    have HX8 := Hid.mk' HL8.out.range
    have HR8 := Hid.mk' (HH.out.below HR3.out HB8.out)
    have HO8 := Hid.mk' ((Keep.of_below (F := fun _ => False) HB8.out).own HO3.out (fun _ _ h => h))
    have C9 := Hid.mk' (cP.out w8 p F2 ⟨lnS L n, arn0.fr, n⟩ y HR8.out hgd (by show n ≤ _; omega))
    dsimp only at C9
    have HBW8 : Hid (Below W0.heap.size W0 w8) := HB3.out.trans (HB8.out.mono HB3.out.size)
    clear HZ7 HBZ7 HL8 HB7 cP hy HR3 HO3
    go_wp2_with (first | (refine wpList_load_slt rfl _ rfl w7.heap.size 0 rfl y HX8.out ?_) | fail)
    refine C9.out.mono ?_
    rintro e w9 ⟨rfl, hQ9⟩
    obtain ⟨G, hG1, hG2, hG3⟩ := hQ9.out
    have HR9 := Hid.mk' hG1
    have HO9 := Hid.mk' (hG2.own HO8.out HFR.out)
    have HB9 : Hid (Below W0.heap.size W0 w9) := HBW8.out.trans (hG2.below (fun k hk hc => by have := HFH.out k hc; omega) HBW8.out.size)
    obtain ⟨a', c', e4, _, _, hcg⟩ := Nm.own_shape HO9.out
    obtain ⟨rfl, rfl⟩ : a1 = a' ∧ d1 = c' := by simpa using e4
    obtain ⟨pb, rfl⟩ := hcg (by omega)
    have HPC : Hid (∀ k wx, k < n → Below w9.heap.size w9 wx → wx.cell? ⟨pb, k, none⟩ = some (nun (L.getD k 0))) := fun k wx hk hbx => by
      have h1 := HO9.out.cellAt (g := pb) (cap := d1) k (by omega)
      have hkl : k < L.length := by rw [HLn.out]; exact hk
      rw [List.getElem?_map, List.getElem?_eq_getElem hkl] at h1
      have h2 := (hbx.cell (p := ⟨pb, k, none⟩) (HO9.out.lt pb rfl).2).trans h1
      rw [h2, List.getD_eq_getElem?_getD, List.getElem?_eq_getElem hkl]
      rfl
    have CLV : Hid (∀ wx i (d : Bool), i < n → Below w9.heap.size w9 wx → (d = true ↔ ∃ j, j < i + 1 ∧ (!(decide (m < 3) && decide (L.getD j 0 = t))) = false) → ∃ k : Nat, ((d = true → k ≤ i) ∧ (d = false → k = i)) ∧ Calls Try.prog 9 #[ptr p, lkU (L.getD i 0 : Nat) (10 + (i : Int))] wx fun e w' => e = .returned (.tuple #[.bool (!d), nun k]) ∧ Hid (Below wx.heap.size wx w')) := fun wx i d hi hbx hd => by
      obtain ⟨g1, g2⟩ := HLI.out.told hn7 i hi
      have hz := getD_lt HLT.out i
      have c := cL.out wx p G _ (L.getD i 0 : Nat) (10 + (i : Int)) (HH.out.below HR9.out hbx) ⟨by rw [List.length_set]; exact lnS_len L n, good0.nd, good0.lt⟩ ⟨⟨by omega, by omega⟩, ⟨by omega, by omega⟩⟩
      dsimp only at c
      cases d with
      | true =>
        obtain ⟨j, hj, hja⟩ := hd.1 rfl
        obtain ⟨q1, q2⟩ := g2 ⟨j, by omega, hja⟩
        refine ⟨_, ⟨fun _ => q2, fun q => by cases q⟩, ?_⟩
        rw [q1] at c
        exact c
      | false =>
        have hall : ∀ j, j ≤ i → (!(decide (m < 3) && decide (L.getD j 0 = t))) = true := fun j hj => by
          cases hq : (!(decide (m < 3) && decide (L.getD j 0 = t))) with
          | true => rfl
          | false => exact absurd (hd.2 ⟨j, by omega, hq⟩) (by decide)
        obtain ⟨q1, q2⟩ := g1 hall
        refine ⟨_, ⟨fun q => (by cases q), fun _ => q2⟩, ?_⟩
        rw [q1] at c
        exact c
    have HSTEP : Hid (∀ i (d : Bool), (d = true ↔ ∃ j, j < i ∧ (!(decide (m < 3) && decide (L.getD j 0 = t))) = false) → ((d || (decide (m < 3) && decide (L.getD i 0 = t))) = true ↔ ∃ j, j < i + 1 ∧ (!(decide (m < 3) && decide (L.getD j 0 = t))) = false)) := fun i d hd => by
      rw [Bool.or_eq_true, hd]
      constructor
      · rintro (⟨j, hj, h⟩ | h)
        · exact ⟨j, by omega, h⟩
        · exact ⟨i, by omega, by rw [h]; rfl⟩
      · rintro ⟨j, hj, h⟩
        by_cases e : j = i
        · subst e
          exact .inr (by simpa using h)
        · exact .inl ⟨j, by omega, h⟩
    obtain ⟨yv, hyv⟩ : ∃ yv, decide (m < 3) = yv := ⟨_, rfl⟩
    simp only [hyv] at CLV HSTEP ⊢
    clear hG1 hG2 hG3 hQ9 e4 hcg HO8 HR8 HB8 HBW8 C9 HX8 HLI HFR HFH HR9 HO9 HND HF2 HBB1 cL HHX
    go_wp2
    go_loopw [12, 13] (fun dv iv wr => ∃ (i : Nat) (d : Bool), i ≤ n ∧ iv = nun i ∧ dv = .bool d ∧ Hid ((d = true ↔ ∃ j, j < i ∧ (!(yv && decide (L.getD j 0 = t))) = false) ∧ Below w9.heap.size w9 wr)) (fun _ iv _ => n - (intOf iv).toNat)
    case atStart => exact ⟨0, false, by omega, rfl, rfl, ⟨fun q => (by cases q), fun ⟨j, hj, _⟩ => (by omega)⟩, Below.refl _ _⟩
    case round =>
      obtain ⟨i, d, hi, rfl, rfl, HD⟩ := hrel
      by_cases hlt : i < n
      · have hltI : (i : Int) < (n : Int) := by omega
        have hi0 : (0 : Int) ≤ (i : Int) := by omega
        have qc := HPC.out i wr hlt HD.out.2
        have hst := HSTEP.out i d HD.out.1
        have clv := CLV.out wr i (d || (yv && decide (L.getD i 0 = t))) hlt HD.out.2 hst
        obtain ⟨z, hz⟩ : ∃ z, L.getD i 0 = z := ⟨_, rfl⟩
        rw [hz] at qc clv hst
        have HBr := Hid.mk' HD.out.2
        clear HD hz
        cases d with
        | true =>
          obtain ⟨k, hkk, clv⟩ := clv
          have CL : Hid (Calls Try.prog 9 #[ptr p, lkU (z : Nat) (10 + (i : Int))] wr fun e w' => e = .returned (.tuple #[.bool false, nun k]) ∧ Hid (Below wr.heap.size wr w')) := clv
          have HST : Hid (true = true ↔ ∃ j, j < i + 1 ∧ (!(yv && decide (L.getD j 0 = t))) = false) := hst
          have hki2 : ¬ (i : Int) < (k : Int) := by have := hkk.1 rfl; omega
          clear clv hst hkk
          go_wp2_with fail
          refine CL.out.mono ?_
          rintro e w10 ⟨rfl, hb10⟩
          have HB10 : Hid (Below w9.heap.size w9 w10) := HBr.out.trans (hb10.out.mono HBr.out.size)
          clear hb10 CL qc
          go_wp2
          go_roundw
          case rel => exact ⟨i + 1, true, by omega, by go_num, rfl, ⟨fun _ => HST.out.1 trivial, fun _ => rfl⟩, HB10.out⟩
          case measure => simp [intOf]; omega
        | false =>
          cases yv with
          | false =>
            obtain ⟨k, hkk, clv⟩ := clv
            have CL : Hid (Calls Try.prog 9 #[ptr p, lkU (z : Nat) (10 + (i : Int))] wr fun e w' => e = .returned (.tuple #[.bool true, nun k]) ∧ Hid (Below wr.heap.size wr w')) := clv
            have HST : Hid (false = true ↔ ∃ j, j < i + 1 ∧ (!(false && decide (L.getD j 0 = t))) = false) := hst
            obtain rfl : k = i := hkk.2 rfl
            have hki2 : ¬ (k : Int) < (k : Int) := by omega
            have hki3 : ((k : Int) != (k : Int)) = false := by simp
            clear clv hst hkk
            go_wp2_with fail
            refine CL.out.mono ?_
            rintro e w10 ⟨rfl, hb10⟩
            have HB10 : Hid (Below w9.heap.size w9 w10) := HBr.out.trans (hb10.out.mono HBr.out.size)
            clear hb10 CL qc
            go_wp2
            go_roundw
            case rel => exact ⟨k + 1, false, by omega, by go_num, rfl, HST.out, HB10.out⟩
            case measure => simp [intOf]; omega
          | true =>
            by_cases hzt : z = t
            · have hb9 : ((z : Int) == (t : Int)) = true := by simp [hzt]
              rw [decide_eq_true hzt] at clv hst
              clear hzt
              obtain ⟨k, hkk, clv⟩ := clv
              have CL : Hid (Calls Try.prog 9 #[ptr p, lkU (z : Nat) (10 + (i : Int))] wr fun e w' => e = .returned (.tuple #[.bool false, nun k]) ∧ Hid (Below wr.heap.size wr w')) := clv
              have HST : Hid (true = true ↔ ∃ j, j < i + 1 ∧ (!(true && decide (L.getD j 0 = t))) = false) := hst
              have hki2 : ¬ (i : Int) < (k : Int) := by have := hkk.1 rfl; omega
              clear clv hst hkk
              go_wp2_with fail
              refine CL.out.mono ?_
              rintro e w10 ⟨rfl, hb10⟩
              have HB10 : Hid (Below w9.heap.size w9 w10) := HBr.out.trans (hb10.out.mono HBr.out.size)
              clear hb10 CL qc
              go_wp2
              go_roundw
              case rel => exact ⟨i + 1, true, by omega, by go_num, rfl, ⟨fun _ => HST.out.1 trivial, fun _ => rfl⟩, HB10.out⟩
              case measure => simp [intOf]; omega
            · have hb9 : ((z : Int) == (t : Int)) = false := by simp; omega
              rw [decide_eq_false hzt] at clv hst
              clear hzt
              obtain ⟨k, hkk, clv⟩ := clv
              have CL : Hid (Calls Try.prog 9 #[ptr p, lkU (z : Nat) (10 + (i : Int))] wr fun e w' => e = .returned (.tuple #[.bool true, nun k]) ∧ Hid (Below wr.heap.size wr w')) := clv
              have HST : Hid (false = true ↔ ∃ j, j < i + 1 ∧ (!(true && decide (L.getD j 0 = t))) = false) := hst
              obtain rfl : k = i := hkk.2 rfl
              have hki2 : ¬ (k : Int) < (k : Int) := by omega
              have hki3 : ((k : Int) != (k : Int)) = false := by simp
              clear clv hst hkk
              go_wp2_with fail
              refine CL.out.mono ?_
              rintro e w10 ⟨rfl, hb10⟩
              have HB10 : Hid (Below w9.heap.size w9 w10) := HBr.out.trans (hb10.out.mono HBr.out.size)
              clear hb10 CL qc
              go_wp2
              go_roundw
              case rel => exact ⟨k + 1, false, by omega, by go_num, rfl, HST.out, HB10.out⟩
              case measure => simp [intOf]; omega
      · have hltI : ¬ (i : Int) < (n : Int) := by omega
        go_wp2
        go_ret
        exact ⟨rfl, HB0.out.trans ((HB9.out.trans (HD.out.2.mono HB9.out.size)).mono HB0.out.size)⟩
end Wk
end Go.Proofs.Ytbkcpjgaoncioaa
