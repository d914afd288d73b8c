/- The chapter's examples: out of what the program's calls must answer. -/
import Derived.Test.YtckgecmcjnhceaaDoorRngB
namespace Go.Proofs.YtckgecmcjnhceaaDoor
set_option linter.ambiguousOpen false
open Go.RowKit
namespace Rg
open An Ft Lv
set_option linter.unusedSimpArgs false
set_option linter.unusedVariables false

theorem errP_pl (no : Nat) (pl : Int) (h : 0 ≤ pl) : errP no pl = .iface 91 (.agg #[.int .i64 (no : Int), .int .i64 pl]) := if_neg (by omega)

/-- Amid the examples: the arena's slots. -/
def Kn (Rep : World → Nat → (Nat → Prop) → Arn → Prop) (w : World) (p n : Nat) (S : List Slt) (wx : World) : Prop := ∃ A, A.wr ≤ n ∧ A.sl = S ∧ Sr Rep w wx p A (fun _ => False)

theorem Kn.below {Rep : World → Nat → (Nat → Prop) → Arn → Prop} (H : KeepC Rep) {w wx w' : World} {p n : Nat} {S : List Slt} (h : Kn Rep w p n S wx) (hb : Below wx.heap.size wx w') : Kn Rep w p n S w' := by
  obtain ⟨A, h1, h2, h3⟩ := h
  exact ⟨A, h1, h2, h3.below H hb⟩

theorem Kn.bel {Rep : World → Nat → (Nat → Prop) → Arn → Prop} {w wx : World} {p n : Nat} {S : List Slt} (h : Kn Rep w p n S wx) : Below w.heap.size w wx := by
  obtain ⟨A, h1, h2, h3⟩ := h
  exact h3.bel

set_option maxRecDepth 100000 in
set_option maxHeartbeats 8000000 in
theorem knownSaid_yes {Rep : World → Nat → (Nat → Prop) → Arn → Prop} (H : KeepC Rep) (CN : NewC Rep) (CP : PushC Rep) (CD : DropC Rep) (CA : AllC Rep) (w : World) (hE : Er.Handle w) :
    Calls Tryd.prog 16 #[] w fun e w' => e = .returned (.bool true) ∧ Below w.heap.size w w' := by
  have c1 := Hid.mk' (CN w)
  have HH := Hid.mk' H
  have cL : Hid (∀ wx p A R v, Sr Rep w wx p A R → A.wr ≤ 900000000 → A.sl = kS0 → RdO wx v [4, 7, 1] → (∀ k, blk v k → R k) → Calls Tryd.prog 36 #[ptr p, v] wx fun e w' => e = .returned (.tuple #[nu 1, .bool true]) ∧ Hid (Kn Rep w p (A.wr + 96) kS3 w')) := fun wx p A R v h1 h2 h3 h4 h5 => by
    refine (laid_run CP w wx p A R v [4, 7, 1] (fun k => [kS0, kS1, kS2, kS3].getD k kS0) (fun k => [-1, 4, 7, 1].getD k 0) ?_ h3 rfl h1 h2 h4 h5 (by decide) (by decide)).mono ?_
    · intro k x hx
      rcases k with _ | (_ | (_ | k))
      · obtain rfl : x = 4 := by simpa using hx.symm
        exact ⟨ks1, rfl, by decide, by decide⟩
      · obtain rfl : x = 7 := by simpa using hx.symm
        exact ⟨ks2, rfl, by decide, by decide⟩
      · obtain rfl : x = 1 := by simpa using hx.symm
        exact ⟨ks3, rfl, by decide, by decide⟩
      · simp at hx
    · rintro e w' ⟨rfl, A', a1, a2, a3, a4⟩
      exact ⟨rfl, A', a1, a2, a3.more H (Below.refl _ _) (fun k hk => hk.elim)⟩
  have cP : Hid (∀ wx p n S last i r, Kn Rep w p n S wx → n ≤ 900000 → I64 last → I64 i → push S last i = r → Calls Tryd.prog 31 #[ptr p, nu last, nu i] wx fun e w' => e = .returned (.tuple #[nu r.ans, errP r.no r.pl]) ∧ Hid (Kn Rep w p (n + 3) r.sl w')) := fun wx p n S last i r h1 h2 h3 h4 h5 => by
    obtain ⟨A, q1, q2, q3⟩ := h1
    refine (push_ex CP w wx p A _ last i r q3 (by omega) h3 h4 (by rw [q2]; exact h5)).mono ?_
    rintro e w' ⟨rfl, A', a1, a2, a3, _⟩
    exact ⟨rfl, A', by omega, a2, a3⟩
  have cD : Hid (∀ wx p n S last i r, Kn Rep w p n S wx → n ≤ 900000 → I64 last → I64 i → drop S last i = r → Calls Tryd.prog 27 #[ptr p, nu last, nu i] wx fun e w' => e = .returned (.tuple #[nu r.ans, errP r.no r.pl]) ∧ Hid (Kn Rep w p (n + 3) r.sl w')) := fun wx p n S last i r h1 h2 h3 h4 h5 => by
    obtain ⟨A, q1, q2, q3⟩ := h1
    refine (drop_ex CD w wx p A _ last i r q3 (by omega) h3 h4 (by rw [q2]; exact h5)).mono ?_
    rintro e w' ⟨rfl, A', a1, a2, a3, _⟩
    exact ⟨rfl, A', by omega, a2, a3⟩
  have cW : Hid (∀ wx, _) := fun wx => works_any H CN CP CA wx
  have cE : Hid (∀ wx no, no ≤ 24 → Below w.heap.size w wx → Calls Tryd.prog 37 #[errE no, nun no] wx fun e w' => e = .returned (.bool true) ∧ Below wx.heap.size wx w') := fun wx no hn hb => plainA no hn wx (hE.below hb)
  have cT : Hid (∀ wx (pl : Int), Below w.heap.size w wx → Calls Tryd.prog 38 #[.iface 91 (.agg #[.int .i64 24, .int .i64 pl]), nu 24, nu pl] wx fun e w' => e = .returned (.bool true) ∧ Below wx.heap.size wx w') := fun wx pl hb => by
    have := Er.at_at 24 pl (by decide) (by decide) wx (hE.below hb)
    unfold Er.atV at this
    exact this
  clear H CN CP CD CA hE
  go_enter Tryd.func16, Tryd.ntmps16
  go_wp2_with fail
  refine c1.out.mono ?_
  rintro e w1 ⟨p, F, rfl, hr1, hf1, hb1⟩
  have HB1 := Hid.mk' hb1
  have hO := ints_row w1 [4, 7, 1] (by decide) #[.int .i64 4, .int .i64 7, .int .i64 1] rfl (by decide)
  have hbA : Below w1.heap.size w1 (w1.alloc (.cells #[.int .i64 4, .int .i64 7, .int .i64 1] 3)) := (Below.refl _ _).alloc (Nat.le_refl _) _
  have hS2 : Sr Rep w (w1.alloc (.cells #[.int .i64 4, .int .i64 7, .int .i64 1] 3)) p arn0 (fun k => k = w1.heap.size) :=
    Sr.more HH.out (R := fun _ => False) ⟨F, hr1, good0, hf1, hb1, fun k hk => hk.elim⟩ hbA (fun k hk => .inr (by subst hk; simp))
  have C2 := Hid.mk' (cL.out _ p arn0 _ _ hS2 (by decide) rfl (rdO_own hO) (fun k hk => hk))
  simp only [show [4, 7, 1].length = 3 from rfl] at C2
  clear hr1 hf1 hb1 c1 hO hbA hS2 cL
  go_wp2_with fail
  refine C2.out.mono ?_
  rintro e w2 ⟨rfl, HK2⟩
  obtain ⟨e9, he9⟩ : ∃ e9, errE 9 = e9 := ⟨_, rfl⟩
  obtain ⟨e1, he1⟩ : ∃ e1, errE 1 = e1 := ⟨_, rfl⟩
  have cE9 : Hid (∀ wx, Below w.heap.size w wx → Calls Tryd.prog 37 #[e9, nu 9] wx fun e w' => e = .returned (.bool true) ∧ Below wx.heap.size wx w') := fun wx hb => by rw [← he9]; exact cE.out wx 9 (by decide) hb
  have cE1 : Hid (∀ wx, Below w.heap.size w wx → Calls Tryd.prog 37 #[e1, nu 1] wx fun e w' => e = .returned (.bool true) ∧ Below wx.heap.size wx w') := fun wx hb => by rw [← he1]; exact cE.out wx 1 (by decide) hb
  have HE9 : Hid (errP 9 (-1) = e9) := he9
  have HE1 : Hid (errP 1 (-1) = e1) := he1
  clear C2 he9 he1 cE HB1
  have D2 := Hid.mk' (cP.out w2 p _ kS3 1 1 _ HK2.out (by decide) (by decide) (by decide) ks3a)
  dsimp only at D2
  rw [HE9.out] at D2
  go_wp2_with fail
  refine D2.out.mono ?_
  rintro e w3 ⟨rfl, HK3⟩
  clear D2 HK2
  have D3 := Hid.mk' (cP.out w3 p _ kS3 1 4 _ HK3.out (by decide) (by decide) (by decide) ks3b)
  dsimp only at D3
  rw [HE9.out] at D3
  go_wp2_with fail
  refine D3.out.mono ?_
  rintro e w4 ⟨rfl, HK4⟩
  clear D3 HK3
  have D4 := Hid.mk' (cP.out w4 p _ kS3 1 32 _ HK4.out (by decide) (by decide) (by decide) ks3c)
  dsimp only at D4
  rw [HE1.out] at D4
  go_wp2_with fail
  refine D4.out.mono ?_
  rintro e w5 ⟨rfl, HK5⟩
  clear D4 HK4
  have D5 := Hid.mk' (cP.out w5 p _ kS3 9 5 _ HK5.out (by decide) (by decide) (by decide) ks3d)
  dsimp only at D5
  rw [errP_pl 24 9 (by decide)] at D5
  go_wp2_with fail
  refine D5.out.mono ?_
  rintro e w6 ⟨rfl, HK6⟩
  clear D5 HK5
  have D6 := Hid.mk' (cE9.out w6 HK6.out.bel)
  go_wp2_with fail
  refine D6.out.mono ?_
  rintro e w7 ⟨rfl, hb6⟩
  have HK7 := Hid.mk' (HK6.out.below HH.out hb6)
  clear D6 HK6 hb6
  have D7 := Hid.mk' (cE9.out w7 HK7.out.bel)
  go_wp2_with fail
  refine D7.out.mono ?_
  rintro e w8 ⟨rfl, hb7⟩
  have HK8 := Hid.mk' (HK7.out.below HH.out hb7)
  clear D7 HK7 hb7
  have D8 := Hid.mk' (cE1.out w8 HK8.out.bel)
  go_wp2_with fail
  refine D8.out.mono ?_
  rintro e w9 ⟨rfl, hb8⟩
  have HK9 := Hid.mk' (HK8.out.below HH.out hb8)
  clear D8 HK8 hb8
  have D9 := Hid.mk' (cT.out w9 9 HK9.out.bel)
  go_wp2_with fail
  refine D9.out.mono ?_
  rintro e w10 ⟨rfl, hb9⟩
  have HK10 := Hid.mk' (HK9.out.below HH.out hb9)
  clear D9 HK9 hb9
  have D10 := Hid.mk' (cD.out w10 p _ kS3 1 7 _ HK10.out (by decide) (by decide) (by decide) ks4)
  dsimp only at D10
  rw [show errP 0 (-1) = .nilIface from rfl] at D10
  go_wp2_with fail
  refine D10.out.mono ?_
  rintro e w11 ⟨rfl, HK11⟩
  clear D10 HK10
  have D11 := Hid.mk' (cD.out w11 p _ kS4 1 1 _ HK11.out (by decide) (by decide) (by decide) ks5)
  dsimp only at D11
  rw [show errP 0 (-1) = .nilIface from rfl] at D11
  go_wp2_with fail
  refine D11.out.mono ?_
  rintro e w12 ⟨rfl, HK12⟩
  clear D11 HK11
  have D12 := Hid.mk' (cD.out w12 p _ kS5 4 4 _ HK12.out (by decide) (by decide) (by decide) ks6)
  dsimp only at D12
  rw [show errP 0 (-1) = .nilIface from rfl] at D12
  go_wp2_with fail
  refine D12.out.mono ?_
  rintro e w13 ⟨rfl, HK13⟩
  clear D12 HK12
  have D13 := Hid.mk' (cD.out w13 p _ kS6 4 4 _ HK13.out (by decide) (by decide) (by decide) ks6a)
  dsimp only at D13
  rw [errP_pl 24 4 (by decide)] at D13
  go_wp2_with fail
  refine D13.out.mono ?_
  rintro e w14 ⟨rfl, HK14⟩
  clear D13 HK13
  have D14 := Hid.mk' (cW.out w14)
  go_wp2_with fail
  refine D14.out.mono ?_
  rintro e w15 ⟨rfl, hb14⟩
  have HK15 := Hid.mk' (HK14.out.below HH.out hb14)
  clear D14 HK14 hb14
  have D15 := Hid.mk' (cT.out w15 4 HK15.out.bel)
  go_wp2_with fail
  refine D15.out.mono ?_
  rintro e w16 ⟨rfl, hb15⟩
  have HK16 := Hid.mk' (HK15.out.below HH.out hb15)
  clear D15 HK15 hb15
  go_wp2
  go_ret
  exact ⟨rfl, HK16.out.bel⟩

theorem rdI_own {w : World} {base n : Nat} {v : Value} {l : List Int} (h : w.ownsRow base 3 1 v n (l.map nu)) : RdI w v l := by
  have hl := h.1
  simp only [List.length_map, Nat.mul_one] at hl
  subst hl
  obtain ⟨a, cap, hv, h1, h2, h3⟩ := Nm.own_shape h
  refine ⟨a, cap, hv, h1, h2, fun h0 => ?_⟩
  obtain ⟨g, rfl⟩ := h3 h0
  subst hv
  refine ⟨g, 0, rfl, (h.lt g rfl).2, fun k i hk => ?_⟩
  have hkl := (List.getElem?_eq_some_iff.1 hk).1
  have := h.cellAt (g := g) (cap := cap) k (by omega)
  rw [Nat.zero_add, this, List.getElem?_map, hk]
  rfl

theorem RdI.below {w w' : World} {v : Value} {l : List Int} (h : RdI w v l) (hb : Below w.heap.size w w') : RdI w' v l := by
  obtain ⟨a, cap, rfl, h1, h2, h3⟩ := h
  refine ⟨a, cap, rfl, h1, h2, fun h0 => ?_⟩
  obtain ⟨g, o, rfl, hg, hc⟩ := h3 h0
  exact ⟨g, o, rfl, Nat.lt_of_lt_of_le hg hb.size, fun k i hk => (hb.cell (p := ⟨g, o + k, none⟩) hg).trans (hc k i hk)⟩

/-- 0, 5, 10 .. -/
def fives (n : Nat) : List Int := (List.range n).map (fun i : Nat => (i : Int) * 5)

theorem fives_more (n : Nat) : fives (n + 1) = fives n ++ [(n : Int) * 5] := by
  unfold fives
  rw [List.range_succ, List.map_append]
  rfl

theorem fives_in {n : Nat} (h : n ≤ 32) : ∀ x ∈ fives n, I64 x := fun x hx => by
  unfold fives at hx
  obtain ⟨i, hi, rfl⟩ := List.mem_map.1 hx
  have := List.mem_range.1 hi
  unfold I64
  omega

theorem four_row (w : World) (l : List Int) (hl : l.length = 4) (ar : Array Value) (ha : ar = (l.map nu).toArray) : (w.alloc (.cells ar 3)).ownsRow w.heap.size 3 1 (.slice (some ⟨w.heap.size, 0, none⟩) 4 4) 4 (l.map nu) := by
  subst ha
  have := World.ownsRow_lit (size := 1) (e := 3) w (l.map nu).toArray 4 (base := w.heap.size) (Nat.le_refl _) (by unfold maxLen; omega) (by simp [hl])
  simpa [hl] using this

set_option maxRecDepth 100000 in
set_option maxHeartbeats 8000000 in
theorem knownSmall_yes (w : World) (CR : ∀ wx v l, RdI wx v l → (∀ x ∈ l, I64 x) → Calls Tryd.prog 40 #[v] wx fun e w' => e = .returned (.bool true) ∧ Below wx.heap.size wx w')
    (CD : ∀ wx v l which, RdI wx v l → (∀ x ∈ l, I64 x) → I64 which → Calls Tryd.prog 41 #[v, nu which] wx fun e w' => e = .returned (.bool true) ∧ Below wx.heap.size wx w')
    (CS : ∀ wx v u l m cut, RdI wx v l → RdI wx u m → (∀ x ∈ l, I64 x) → (∀ x ∈ m, I64 x) → I64 cut → Calls Tryd.prog 42 #[v, u, nu cut] wx fun e w' => e = .returned (.bool true) ∧ Below wx.heap.size wx w') :
    Calls Tryd.prog 17 #[] w fun e w' => e = .returned (.bool true) ∧ Below w.heap.size w w' := by
  obtain ⟨i0, ji, hz0, hz1, hz2⟩ := info_parts info_int
  have cR := Hid.mk' CR
  have cD := Hid.mk' CD
  have cS := Hid.mk' CS
  clear CR CD CS
  go_enter Tryd.func17, Tryd.ntmps17
  go_wp2
  go_loopw [1] (fun nv wr => ∃ n : Nat, n ≤ 33 ∧ nv = nun n ∧ Hid (Below w.heap.size w wr)) (fun nv _ => 33 - (intOf nv).toNat)
  case atStart => exact ⟨0, by omega, rfl, Below.refl _ _⟩
  case round =>
    obtain ⟨n, hn, rfl, HB⟩ := hrel
    rename World => w2
    by_cases hn33 : n ≤ 32
    · have hnI : (n : Int) ≤ 32 := by omega
      go_wp2
      go_loopw [2, 3] (fun lv iv wr => ∃ (i : Nat) (a : Option Addr) (c : Nat), i ≤ n ∧ iv = nun i ∧ lv = .slice a i c ∧ Hid (wr.ownsRow w.heap.size 3 1 (.slice a i c) i ((fives i).map nu)) ∧ Hid (Below w.heap.size w wr)) (fun _ iv _ => n - (intOf iv).toNat)
      case atStart => exact ⟨0, none, 0, Nat.zero_le _, rfl, rfl, World.ownsRow_nil _ _ _ _, HB⟩
      case round =>
        obtain ⟨i, a, c, hi, rfl, rfl, HO, HB3⟩ := hrel
        by_cases hlt : i < n
        · have hlI : (i : Int) < (n : Int) := by omega
          have hi32 : (i : Int) ≤ 32 := by omega
          have hi0 : (0 : Int) ≤ (i : Int) := by omega
          have HO1 : Hid ((wr.alloc (.cells #[nu ((i : Int) * 5)] 3)).ownsRow w.heap.size 3 1 (.slice a i c) i ((fives i).map nu)) := HO.out.alloc _
          have HB4 : Hid (Below w.heap.size w (wr.alloc (.cells #[nu ((i : Int) * 5)] 3))) := HB3.out.alloc HB3.out.size _
          go_wp2_with (first | (at_builtin; refine Nm.wpList_append_keep _ rfl _ _ 30 rfl w.heap.size 3 i0 (.int .i64 0) 1 8 Tryd.underlying30 ji hz0 hz1 hz2 rfl (by decide) _ i _ rfl HO1.out ⟨wr.heap.size, 0, none⟩ 1 1 [nu ((i : Int) * 5)] rfl rfl (cell_one_new _ _ _) (by simp [Value.oneCell']) (by unfold maxLen; omega) (by omega) HB4.out.size (by decide) ?_; intro v4 w4 hg4; obtain ⟨ho4, hgr4, _, _⟩ := hg4; obtain ⟨a4, c4, rfl, _⟩ := Nm.own_shape ho4; have HO4 := Hid.mk' ho4; have HB5 : Hid (Below w.heap.size w w4) := (HB4.out.grown hgr4 HB4.out.size (fun r e => (HO1.out.lt r e).1)); clear ho4 hgr4) | fail)
          go_roundw
          case rel => exact ⟨i + 1, a4, c4, by omega, by go_num, rfl, by rw [fives_more, List.map_append]; exact HO4, HB5⟩
          case measure => simp [intOf]; omega
        · have hlI : ¬ (i : Int) < (n : Int) := by omega
          obtain rfl : i = n := by omega
          have HRD : Hid (RdI wr (.slice a i c) (fives i)) := rdI_own HO.out
          have HRF : Hid (∀ x ∈ fives i, I64 x) := fives_in (by omega)
          rename World => w3
          clear HO
          go_wp2
          go_loopw [4] (fun kv wr => ∃ k : Nat, k ≤ i + 1 ∧ kv = nun k ∧ Hid (Below w3.heap.size w3 wr)) (fun kv _ => i + 1 - (intOf kv).toNat)
          case atStart => exact ⟨0, Nat.zero_le _, rfl, Below.refl _ _⟩
          case round =>
            obtain ⟨k, hk, rfl, HBk⟩ := hrel
            by_cases hki : k ≤ i
            · have hkI : (k : Int) ≤ (i : Int) := by omega
              have hk0 : (0 : Int) ≤ (k : Int) := by omega
              have hk32 : (k : Int) ≤ 32 := by omega
              have d1 := Hid.mk' (cR.out wr (.slice a i c) (fives i) (HRD.out.below HBk.out) HRF.out)
              go_wp2_with fail
              refine d1.out.mono ?_
              rintro e wa ⟨rfl, hba⟩
              have HBa : Hid (Below w3.heap.size w3 wa) := HBk.out.trans (hba.mono HBk.out.size)
              have d2 := Hid.mk' (cD.out wa (.slice a i c) (fives i) k (HRD.out.below HBa.out) HRF.out (by unfold I64; omega))
              clear d1 hba
              go_wp2_with fail
              refine d2.out.mono ?_
              rintro e wb ⟨rfl, hbb⟩
              have HBb : Hid (Below w3.heap.size w3 wb) := HBa.out.trans (hbb.mono HBa.out.size)
              have hO := four_row wb [(k : Int), 3 * (k : Int), 0, 1] rfl #[.int .i64 (k : Int), .int .i64 (3 * (k : Int)), .int .i64 0, .int .i64 1] rfl
              have HBc : Hid (Below w3.heap.size w3 (wb.alloc (.cells #[.int .i64 (k : Int), .int .i64 (3 * (k : Int)), .int .i64 0, .int .i64 1] 3))) := HBb.out.alloc HBb.out.size _
              have d3 := Hid.mk' (cS.out _ (.slice a i c) _ (fives i) _ k (HRD.out.below HBc.out) (rdI_own hO) HRF.out (by intro x hx; simp at hx; unfold I64; omega) (by unfold I64; omega))
              clear d2 hbb hO
              go_wp2_with fail
              refine d3.out.mono ?_
              rintro e wd ⟨rfl, hbd⟩
              have HBd : Hid (Below w3.heap.size w3 wd) := HBc.out.trans (hbd.mono HBc.out.size)
              clear d3 hbd
              go_wp2
              go_roundw
              case rel => exact ⟨k + 1, by omega, by go_num, HBd⟩
              case measure => simp [intOf]; omega
            · have hkI : ¬ (k : Int) ≤ (i : Int) := by omega
              have HBw : Hid (Below w.heap.size w wr) := HB3.out.trans (HBk.out.mono HB3.out.size)
              go_wp2
              go_roundw
              case rel => exact ⟨i + 1, by omega, by go_num, HBw⟩
              case measure => simp [intOf]; omega
    · have hnI : ¬ (n : Int) ≤ 32 := by omega
      go_wp2
      go_ret
      exact ⟨rfl, HB.out⟩
end Rg
end Go.Proofs.YtckgecmcjnhceaaDoor
