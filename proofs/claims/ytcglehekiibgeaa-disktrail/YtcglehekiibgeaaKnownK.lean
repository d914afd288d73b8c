/- The document's examples, and the limits from both sides. (Made by gen_known9.py.) -/
import Derived.Test.YtcglehekiibgeaaOneK
import Derived.Test.YtcglehekiibgeaaSameR
namespace Go.Proofs.Ytcglehekiibgeaa
set_option linter.ambiguousOpen false
open Go.RowKit
namespace Dk
open Sm Ft
set_option linter.unusedSimpArgs false
set_option linter.unusedVariables false

/-- Two disks. -/
def D2 (Rep : World → Nat → (Nat → Prop) → Dsk → Prop) (w wr : World) (p q : Nat) (d e : Dsk) : Prop :=
  ∃ F G, On Rep w wr p F d ∧ On Rep w wr q G e ∧ ∀ k, F k → ¬ G k

theorem D2.swap {Rep : World → Nat → (Nat → Prop) → Dsk → Prop} {w wr : World} {p q : Nat} {d e : Dsk} (h : D2 Rep w wr p q d e) : D2 Rep w wr q p e d := by
  obtain ⟨F, G, h1, h2, h3⟩ := h
  exact ⟨G, F, h2, h1, fun k a b => h3 k b a⟩

theorem D2.below {Rep : World → Nat → (Nat → Prop) → Dsk → Prop} (H : Says Rep) {w wr w' : World} {p q : Nat} {d e : Dsk} (h : D2 Rep w wr p q d e) (hb : Below wr.heap.size wr w') : D2 Rep w w' p q d e := by
  obtain ⟨F, G, h1, h2, h3⟩ := h
  exact ⟨F, G, h1.below H hb, h2.below H hb, h3⟩

theorem D2.bel {Rep : World → Nat → (Nat → Prop) → Dsk → Prop} {w wr : World} {p q : Nat} {d e : Dsk} (h : D2 Rep w wr p q d e) : Below w.heap.size w wr := by
  obtain ⟨F, G, h1, h2, h3⟩ := h
  exact h1.bel

theorem D2.turned {Rep : World → Nat → (Nat → Prop) → Dsk → Prop} (H : Says Rep) {w wr wa : World} {p q : Nat} {d d' e : Dsk} {F G F' : Nat → Prop} (h1 : On Rep w wr p F d) (h2 : On Rep w wr q G e) (h3 : ∀ k, F k → ¬ G k) (hr : Rep wa p F' d') (hK : Keep F wr wa) (hg : Goes wr F F') : D2 Rep w wa p q d' e := by
  have hO := h1.turned H hr hK hg
  refine ⟨F', G, hO, ⟨H.keep h2.rep hK (fun k a b => h3 k b a), h2.fl, hO.bel⟩, fun k a b => ?_⟩
  rcases hg k a with c | c
  · exact h3 k c b
  · have := H.lt h2.rep k b
    omega

theorem d2_read {Rep : World → Nat → (Nat → Prop) → Dsk → Prop} (H : Says Rep) {w wr : World} {p q : Nat} {d e : Dsk} (h : D2 Rep w wr p q d e) (i : Int) (s : List UInt8) (n : Nat) (hi : -9223372036854775808 ≤ i ∧ i ≤ 9223372036854775807) (ht : d.tr.length ≤ 1000000) (hs : rdT d i = s) (hn : rdN d i = n) :
    Calls Try.prog 13 #[ptr p, nu i] wr fun e' w' => e' = .returned (.tuple #[.string (tx s), errE n]) ∧ D2 Rep w w' p q d e := by
  subst hs hn
  have h0 := h
  obtain ⟨F, G, h1, h2, h3⟩ := h
  refine (H.read wr p F d i h1.rep ht hi).mono ?_
  rintro e' w' ⟨rfl, hb⟩
  exact ⟨rfl, h0.below H hb⟩

theorem d2_writes {Rep : World → Nat → (Nat → Prop) → Dsk → Prop} (H : Says Rep) {w wr : World} {p q : Nat} {d e : Dsk} (h : D2 Rep w wr p q d e) (n : Nat) (ht : d.tr.length ≤ 1000000) (hn : d.tr.length = n) :
    Calls Try.prog 15 #[ptr p] wr fun e' w' => e' = .returned (nu n) ∧ D2 Rep w w' p q d e := by
  subst hn
  have h0 := h
  obtain ⟨F, G, h1, h2, h3⟩ := h
  refine (H.writes wr p F d h1.rep ht).mono ?_
  rintro e' w' ⟨rfl, hb⟩
  exact ⟨rfl, h0.below H hb⟩

theorem d2_blocks {Rep : World → Nat → (Nat → Prop) → Dsk → Prop} (H : Says Rep) {w wr : World} {p q : Nat} {d e : Dsk} (h : D2 Rep w wr p q d e) :
    Calls Try.prog 18 #[ptr p] wr fun e' w' => e' = .returned (nu d.n) ∧ D2 Rep w w' p q d e := by
  have h0 := h
  obtain ⟨F, G, h1, h2, h3⟩ := h
  refine (H.blocks wr p F d h1.rep).mono ?_
  rintro e' w' ⟨rfl, hb⟩
  exact ⟨rfl, h0.below H hb⟩

theorem d2_write {Rep : World → Nat → (Nat → Prop) → Dsk → Prop} (H : Says Rep) {w wr : World} {p q : Nat} {d d' e : Dsk} (h : D2 Rep w wr p q d e) (i : Int) (s : List UInt8) (n : Nat) (hi : -9223372036854775808 ≤ i ∧ i ≤ 9223372036854775807) (hs : s.length ≤ 1000) (ht : d.tr.length ≤ 1000000) (hn : wrN d i s = n) (hd : wrD d i s = d') :
    Calls Try.prog 11 #[ptr p, nu i, .string (tx s)] wr fun e' w' => e' = .returned (errE n) ∧ D2 Rep w w' p q d' e := by
  subst hn hd
  obtain ⟨F, G, h1, h2, h3⟩ := h
  refine (H.write wr p F d i s h1.rep ht hi (by unfold maxLen; omega)).mono ?_
  rintro e' w' ⟨rfl, F', a1, a2, a3⟩
  exact ⟨rfl, D2.turned H h1 h2 h3 a1 a2 a3⟩

theorem d2_cut {Rep : World → Nat → (Nat → Prop) → Dsk → Prop} (H : Says Rep) {w wr : World} {p q : Nat} {d e : Dsk} (h : D2 Rep w wr p q d e) (n m : Int) (hi : -9223372036854775808 ≤ n ∧ n ≤ 9223372036854775807) (hm : max n (-1) = m) :
    Calls Try.prog 9 #[ptr p, nu n] wr fun e' w' => (∃ u, e' = .returned u) ∧ D2 Rep w w' p q ⟨d.n, m, d.tr⟩ e := by
  subst hm
  obtain ⟨F, G, h1, h2, h3⟩ := h
  refine (H.cut wr p F d n h1.rep hi).mono ?_
  rintro e' w' ⟨hu, F', a1, a2, a3⟩
  exact ⟨hu, D2.turned H h1 h2 h3 a1 a2 a3⟩

theorem d2_trail {Rep : World → Nat → (Nat → Prop) → Dsk → Prop} (H : Says Rep) {w wr : World} {p q : Nat} {d e : Dsk} (h : D2 Rep w wr p q d e) (ht : d.tr.length ≤ 1000000) :
    Calls Try.prog 16 #[ptr p] wr fun e' w' => (∃ a c, e' = .returned (.slice a d.tr.length c) ∧ RdR w' (.slice a d.tr.length c) d.tr) ∧ D2 Rep w w' p q d e := by
  have h0 := h
  obtain ⟨F, G, h1, h2, h3⟩ := h
  refine (H.trail wr p F d h1.rep ht).mono ?_
  rintro e' w' ⟨v, rfl, ho, hb⟩
  have hR := own_rdR ho
  obtain ⟨a, c, rfl, _⟩ := own_rdR ho
  exact ⟨⟨a, c, rfl, hR⟩, h0.below H hb⟩

theorem d2_afterNo {Rep : World → Nat → (Nat → Prop) → Dsk → Prop} (H : Says Rep) {w wr : World} {p q : Nat} {d e : Dsk} (h : D2 Rep w wr p q d e) (n : Int) (hi : -9223372036854775808 ≤ n ∧ n ≤ 9223372036854775807) (ht : d.tr.length ≤ 1000000) (hn : ¬ (0 ≤ n ∧ n ≤ d.tr.length)) :
    Calls Try.prog 17 #[ptr p, nu n] wr fun e' w' => e' = .returned (.tuple #[.pointer none, noE 1]) ∧ D2 Rep w w' p q d e := by
  have h0 := h
  obtain ⟨F, G, h1, h2, h3⟩ := h
  refine (H.afterNo wr p F d n h1.rep ht hi hn).mono ?_
  rintro e' w' ⟨rfl, hb⟩
  exact ⟨rfl, h0.below H hb⟩

theorem d2_afterYes {Rep : World → Nat → (Nat → Prop) → Dsk → Prop} (H : Says Rep) {w wr : World} {p q : Nat} {d e : Dsk} (h : D2 Rep w wr p q d e) (n : Nat) (l : List Raw) (ht : d.tr.length ≤ 1000000) (hn : n ≤ d.tr.length) (hl : d.tr.take n = l) :
    Calls Try.prog 17 #[ptr p, nu n] wr fun e' w' => ∃ r, e' = .returned (.tuple #[ptr r, .nilIface]) ∧ D2 Rep w w' p r d ⟨d.n, -1, l⟩ := by
  subst hl
  obtain ⟨F, G, h1, h2, h3⟩ := h
  refine (H.afterYes wr p F d n h1.rep ht hn).mono ?_
  rintro e' w' ⟨r, X, rfl, a1, a2, hb⟩
  refine ⟨r, rfl, F, X, h1.below H hb, ⟨a1, fun k hk => Nat.le_trans h1.bel.size (a2 k hk), below_go h1.bel hb⟩, fun k a b => ?_⟩
  have h4 := H.lt h1.rep k a
  have h5 := a2 k b
  omega

theorem d2_num {Rep : World → Nat → (Nat → Prop) → Dsk → Prop} (H : Says Rep) {w wr : World} {p q : Nat} {d e : Dsk} (h : D2 Rep w wr p q d e) (n : Nat) (h1 : 1 ≤ n) (h2 : n ≤ 24) :
    Calls Try.prog 12 #[noE n] wr fun e' w' => e' = .returned (nu n) ∧ D2 Rep w w' p q d e := by
  refine (Er.num_no n h1 h2 wr).mono ?_
  rintro e' w' ⟨rfl, hb⟩
  exact ⟨rfl, h.below H hb⟩

theorem tx_add (l : List UInt8) (c : UInt8) : tx l ++ (⟨#[c]⟩ : ByteArray) = tx (l ++ [c]) := by
  apply ByteArray.ext
  simp

theorem wrN_long (d : Dsk) (i : Int) (s : List UInt8) (hi : 0 ≤ i ∧ i < d.n) (hs : 256 < s.length) : wrN d i s = 3 ∧ wrD d i s = d := by
  have h : wrN d i s = 3 := by
    unfold wrN
    rw [if_pos hi, if_pos hs]
  refine ⟨h, ?_⟩
  unfold wrD
  rw [h]
  rfl

theorem wrD_no (d : Dsk) (i : Int) (s : List UInt8) (n : Nat) (h : wrN d i s = n + 1) : wrD d i s = d := by
  unfold wrD
  rw [h, if_neg (by omega)]

theorem wrD_yes (d : Dsk) (i : Int) (s : List UInt8) (h : wrN d i s = 0) : wrD d i s = ⟨d.n, if 0 < d.left then d.left - 1 else d.left, d.tr ++ [(i, s)]⟩ := by
  unfold wrD
  rw [h, if_pos rfl]

/-- The three raw writes of the examples. -/
theorem lit3 (w : World) : RdR (w.alloc (.cells #[nu 1, .string ⟨#[97]⟩, nu 0, .string ⟨#[120]⟩, nu 0, .string ⟨#[121]⟩] 33)) (.slice (some ⟨w.heap.size, 0, none⟩) 3 3) [(1, [97]), (0, [120]), (0, [121])] := by
  have h : (w.alloc (.cells #[nu 1, .string ⟨#[97]⟩, nu 0, .string ⟨#[120]⟩, nu 0, .string ⟨#[121]⟩] 33)).heap[w.heap.size]? = some (.cells #[nu 1, .string ⟨#[97]⟩, nu 0, .string ⟨#[120]⟩, nu 0, .string ⟨#[121]⟩] 33) := heap_alloc_new _ _
  generalize w.alloc (.cells #[nu 1, .string ⟨#[97]⟩, nu 0, .string ⟨#[120]⟩, nu 0, .string ⟨#[121]⟩] 33) = wx at h ⊢
  refine ⟨_, 3, rfl, by decide, by decide, fun _ => ⟨w.heap.size, 0, rfl, (Array.getElem?_eq_some_iff.1 h).1, fun k r hr => ?_⟩⟩
  match k, hr with
  | 0, hr => obtain rfl : _ = r := by simpa using hr
             exact ⟨by simp [World.cell?, h], by simp [World.cell?, h]⟩
  | 1, hr => obtain rfl : _ = r := by simpa using hr
             exact ⟨by simp [World.cell?, h], by simp [World.cell?, h]⟩
  | 2, hr => obtain rfl : _ = r := by simpa using hr
             exact ⟨by simp [World.cell?, h], by simp [World.cell?, h]⟩
  | n + 3, hr => simp at hr

set_option maxRecDepth 100000 in
set_option maxHeartbeats 16000000 in
theorem diskKnown_says {Rep : World → Nat → (Nat → Prop) → Dsk → Prop} (H : Says Rep) (w : World) : Calls Try.prog 5 #[] w fun e w' => e = .returned (.bool true) ∧ Below w.heap.size w w' := by
  have HH := Hid.mk' H
  have c1 := H.newNo 0 w (by decide)
  clear H
  go_enter Try.func5, Try.ntmps5
  go_wp2_with fail
  refine c1.mono ?_
  rintro e w1 ⟨rfl, hb1⟩
  have c2 := HH.out.newNo 4097 w1 (by decide)
  have HB1 := Hid.mk' hb1
  clear c1 hb1
  go_wp2_with fail
  refine c2.mono ?_
  rintro e w2 ⟨rfl, hb2⟩
  have c3 := HH.out.newYes 4096 w2 (by decide) (by decide)
  have HB2 := Hid.mk' (below_go HB1.out hb2)
  clear c2 hb2 HB1
  go_wp2_with fail
  refine c3.mono ?_
  rintro e w3 ⟨q, G, rfl, hRep3, hG3, hb3⟩
  have hO3 : On Rep w w3 q G ⟨4096, -1, []⟩ := ⟨hRep3, fun k hk => Nat.le_trans HB2.out.size (hG3 k hk), below_go HB2.out hb3⟩
  have c4 := HH.out.newYes 2 w3 (by decide) (by decide)
  have HO3 := Hid.mk' hO3
  clear c3 hRep3 hG3 hb3 hO3 HB2
  go_wp2_with fail
  refine c4.mono ?_
  rintro e w4 ⟨p, F, rfl, hRep4, hF4, hb4⟩
  have hD : D2 Rep w w4 p q ⟨2, -1, []⟩ ⟨4096, -1, []⟩ := ⟨F, G, ⟨hRep4, fun k hk => Nat.le_trans HO3.out.bel.size (hF4 k hk), below_go HO3.out.bel hb4⟩, HO3.out.below HH.out hb4, fun k a b => by
    have h1 := hF4 k a
    have h2 := HH.out.lt HO3.out.rep k b
    omega⟩
  clear c4 hRep4 hF4 hb4 HO3
  have c := d2_num HH.out hD 1 (by decide) (by decide)
  simp only [Int.cast_ofNat_Int, Int.natCast_one] at c
  clear hD
  go_wp2_with fail
  refine c.mono ?_
  rintro e wk1 ⟨rfl, hE⟩
  have hD := hE
  clear c hE
  have c := d2_num HH.out hD 1 (by decide) (by decide)
  simp only [Int.cast_ofNat_Int, Int.natCast_one] at c
  clear hD
  go_wp2_with fail
  refine c.mono ?_
  rintro e wk2 ⟨rfl, hE⟩
  have hD := hE
  clear c hE
  have c := d2_blocks HH.out hD.swap
  simp only at c
  clear hD
  go_wp2_with fail
  refine c.mono ?_
  rintro e wb1 ⟨rfl, hE⟩
  have hD := hE.swap
  clear c hE
  have c := d2_blocks HH.out hD
  simp only at c
  have HD := Hid.mk' hD
  clear hD
  go_wp2_with fail
  refine c.mono ?_
  rintro e wb2 ⟨rfl, hE⟩
  have HD2 := Hid.mk' hE
  clear c hE HD
  go_wp2
  go_loopw [9, 10] (fun sv iv wr => ∃ k : Nat, k ≤ 256 ∧ iv = nu k ∧ sv = .string (tx (List.replicate k 120)) ∧ Hid (wr = wb2)) (fun _ iv _ => 256 - (intOf iv).toNat)
  case atStart => exact ⟨0, by omega, rfl, rfl, rfl⟩
  case round =>
    obtain ⟨k, hk, rfl, rfl, hwr⟩ := hrel
    by_cases hq : k < 256
    · have hsz : (tx (List.replicate k (120 : UInt8))).size = k := by
        show (List.replicate k (120 : UInt8)).length = k
        simp
      have hTX : Hid (tx (List.replicate k (120 : UInt8)) ++ (⟨#[120]⟩ : ByteArray) = tx (List.replicate (k + 1) 120)) := by
        show _ = _
        rw [tx_add, ← List.replicate_succ']
      generalize tx (List.replicate k (120 : UInt8)) = xs at *
      go_wp2
      go_roundw
      case rel => exact ⟨k + 1, by omega, vj (by omega), by rw [hTX.out], hwr⟩
      case measure => simp [intOf]; omega
    · obtain rfl : k = 256 := by omega
      have hw' := hwr.out
      clear hwr
      subst hw'
      have hD := HD2.out
      clear HD2
      obtain ⟨L, hLe, hLl⟩ : ∃ L : List UInt8, List.replicate 256 120 = L ∧ L.length = 256 := ⟨_, rfl, by simp⟩
      rw [hLe]
      simp only [Int.cast_ofNat_Int]
      have HTX : Hid (tx L ++ (⟨#[120]⟩ : ByteArray) = tx (L ++ [120])) := tx_add L 120
      have hszL : (tx L).size = 256 := hLl
      have hLL : (L ++ [120]).length = 257 := by rw [List.length_append, hLl]; rfl
      have HLL := Hid.mk' hLL
      have HL := Hid.mk' hLl
      obtain ⟨xl, hxl⟩ : ∃ x, tx L = x := ⟨_, rfl⟩
      obtain ⟨xl1, hxl1⟩ : ∃ x, tx (L ++ [120]) = x := ⟨_, rfl⟩
      have HX1 := Hid.mk' hxl
      have HX2 := Hid.mk' hxl1
      rw [hxl] at hszL HTX ⊢
      rw [hxl1] at HTX
      have hTXo := HTX.out
      clear hLe hLl hLL hxl hxl1 HTX hq hk
      have c := d2_read HH.out hD (1) [] 0 (by decide) (by decide) (by decide) (by decide)
      rw [show errE 0 = Value.nilIface from rfl] at c
      rw [show tx [] = (⟨#[]⟩ : ByteArray) from rfl] at c
      clear hD
      go_wp2_with fail
      refine c.mono ?_
      rintro e wk3 ⟨rfl, hE⟩
      have hD := hE
      clear c hE
      have c := d2_read HH.out hD (2) [] 1 (by decide) (by decide) (by decide) (by decide)
      rw [show errE 1 = noE 1 from rfl] at c
      rw [show tx [] = (⟨#[]⟩ : ByteArray) from rfl] at c
      clear hD
      go_wp2_with fail
      refine c.mono ?_
      rintro e wk4 ⟨rfl, hE⟩
      have hD := hE
      clear c hE
      have c := d2_read HH.out hD (-1) [] 1 (by decide) (by decide) (by decide) (by decide)
      rw [show errE 1 = noE 1 from rfl] at c
      rw [show tx [] = (⟨#[]⟩ : ByteArray) from rfl] at c
      clear hD
      go_wp2_with fail
      refine c.mono ?_
      rintro e wk5 ⟨rfl, hE⟩
      have hD := hE
      clear c hE
      have c := d2_num HH.out hD 1 (by decide) (by decide)
      simp only [Int.cast_ofNat_Int, Int.natCast_one] at c
      clear hD
      go_wp2_with fail
      refine c.mono ?_
      rintro e wk6 ⟨rfl, hE⟩
      have hD := hE
      clear c hE
      have c := d2_num HH.out hD 1 (by decide) (by decide)
      simp only [Int.cast_ofNat_Int, Int.natCast_one] at c
      clear hD
      go_wp2_with fail
      refine c.mono ?_
      rintro e wk7 ⟨rfl, hE⟩
      have hD := hE
      clear c hE
      have c := d2_write (d' := (⟨2, -1, [(1, ([97] : List UInt8))]⟩ : Dsk)) HH.out hD (1) [97] 0 (by decide) (by decide) (by decide) (by decide) (by first | exact wrD_yes _ _ _ (by decide) | (rw [wrD_yes _ _ _ (by decide)]; rfl))
      rw [show errE 0 = Value.nilIface from rfl] at c
      rw [show tx [97] = (⟨#[97]⟩ : ByteArray) from rfl] at c
      clear hD
      go_wp2_with fail
      refine c.mono ?_
      rintro e wk8 ⟨rfl, hE⟩
      have hD := hE
      clear c hE
      have c := d2_write (d' := (⟨2, -1, [(1, ([97] : List UInt8))]⟩ : Dsk)) HH.out hD (2) [97] 1 (by decide) (by decide) (by decide) (by decide) (by first | exact wrD_no _ _ _ 0 (by decide) | (rw [wrD_no _ _ _ 0 (by decide)]; rfl))
      rw [show errE 1 = noE 1 from rfl] at c
      rw [show tx [97] = (⟨#[97]⟩ : ByteArray) from rfl] at c
      clear hD
      go_wp2_with fail
      refine c.mono ?_
      rintro e wk9 ⟨rfl, hE⟩
      have hD := hE
      clear c hE
      have c := d2_num HH.out hD 1 (by decide) (by decide)
      simp only [Int.cast_ofNat_Int, Int.natCast_one] at c
      clear hD
      go_wp2_with fail
      refine c.mono ?_
      rintro e wk10 ⟨rfl, hE⟩
      have hD := hE
      clear c hE
      have c := d2_write (d' := (⟨2, -1, [(1, ([97] : List UInt8))]⟩ : Dsk)) HH.out hD (1) (L ++ [120]) 3 (by decide) (by rw [HLL.out]; decide) (by decide) (wrN_long _ _ _ (by decide) (by rw [HLL.out]; decide)).1 (wrN_long _ _ _ (by decide) (by rw [HLL.out]; decide)).2
      rw [show errE 3 = noE 3 from rfl, HX2.out] at c
      clear hD
      go_wp2_with fail
      refine c.mono ?_
      rintro e wk11 ⟨rfl, hE⟩
      have hD := hE
      clear c hE
      have c := d2_num HH.out hD 3 (by decide) (by decide)
      simp only [Int.cast_ofNat_Int, Int.natCast_one] at c
      clear hD
      go_wp2_with fail
      refine c.mono ?_
      rintro e wk12 ⟨rfl, hE⟩
      have hD := hE
      clear c hE
      have c := d2_write (d' := wrD ⟨4096, -1, []⟩ 4095 L) HH.out hD.swap 4095 L 0 (by decide) (by rw [HL.out]; decide) (by decide) (by rw [wrN_in _ _ _ (by decide) (by rw [HL.out]; decide)]; rfl) rfl
      rw [show errE 0 = Value.nilIface from rfl, HX1.out] at c
      clear hD
      go_wp2_with fail
      refine c.mono ?_
      rintro e wk13 ⟨rfl, hE⟩
      have hD := hE.swap
      clear c hE
      have c := d2_cut HH.out hD (1) (1) (by decide) (by decide)
      simp only at c
      clear hD
      go_wp2_with fail
      refine c.mono ?_
      rintro e wk14 ⟨⟨u14, rfl⟩, hE⟩
      have hD := hE
      clear c hE
      have c := d2_write (d' := (⟨2, 0, [(1, ([97] : List UInt8)), (0, ([120] : List UInt8))]⟩ : Dsk)) HH.out hD (0) [120] 0 (by decide) (by decide) (by decide) (by decide) (by first | exact wrD_yes _ _ _ (by decide) | (rw [wrD_yes _ _ _ (by decide)]; rfl))
      rw [show errE 0 = Value.nilIface from rfl] at c
      rw [show tx [120] = (⟨#[120]⟩ : ByteArray) from rfl] at c
      clear hD
      go_wp2_with fail
      refine c.mono ?_
      rintro e wk15 ⟨rfl, hE⟩
      have hD := hE
      clear c hE
      have c := d2_write (d' := (⟨2, 0, [(1, ([97] : List UInt8)), (0, ([120] : List UInt8))]⟩ : Dsk)) HH.out hD (0) [121] 22 (by decide) (by decide) (by decide) (by decide) (by first | exact wrD_no _ _ _ 21 (by decide) | (rw [wrD_no _ _ _ 21 (by decide)]; rfl))
      rw [show errE 22 = noE 22 from rfl] at c
      rw [show tx [121] = (⟨#[121]⟩ : ByteArray) from rfl] at c
      clear hD
      go_wp2_with fail
      refine c.mono ?_
      rintro e wk16 ⟨rfl, hE⟩
      have hD := hE
      clear c hE
      have c := d2_num HH.out hD 22 (by decide) (by decide)
      simp only [Int.cast_ofNat_Int, Int.natCast_one] at c
      clear hD
      go_wp2_with fail
      refine c.mono ?_
      rintro e wk17 ⟨rfl, hE⟩
      have hD := hE
      clear c hE
      have c := d2_write (d' := (⟨2, 0, [(1, ([97] : List UInt8)), (0, ([120] : List UInt8))]⟩ : Dsk)) HH.out hD (5) [121] 1 (by decide) (by decide) (by decide) (by decide) (by first | exact wrD_no _ _ _ 0 (by decide) | (rw [wrD_no _ _ _ 0 (by decide)]; rfl))
      rw [show errE 1 = noE 1 from rfl] at c
      rw [show tx [121] = (⟨#[121]⟩ : ByteArray) from rfl] at c
      clear hD
      go_wp2_with fail
      refine c.mono ?_
      rintro e wk18 ⟨rfl, hE⟩
      have hD := hE
      clear c hE
      have c := d2_num HH.out hD 1 (by decide) (by decide)
      simp only [Int.cast_ofNat_Int, Int.natCast_one] at c
      clear hD
      go_wp2_with fail
      refine c.mono ?_
      rintro e wk19 ⟨rfl, hE⟩
      have hD := hE
      clear c hE
      have c := d2_write (d' := (⟨2, 0, [(1, ([97] : List UInt8)), (0, ([120] : List UInt8))]⟩ : Dsk)) HH.out hD (0) (L ++ [120]) 3 (by decide) (by rw [HLL.out]; decide) (by decide) (wrN_long _ _ _ (by decide) (by rw [HLL.out]; decide)).1 (wrN_long _ _ _ (by decide) (by rw [HLL.out]; decide)).2
      rw [show errE 3 = noE 3 from rfl, HX2.out] at c
      clear hD
      go_wp2_with fail
      refine c.mono ?_
      rintro e wk20 ⟨rfl, hE⟩
      have hD := hE
      clear c hE
      have c := d2_num HH.out hD 3 (by decide) (by decide)
      simp only [Int.cast_ofNat_Int, Int.natCast_one] at c
      clear hD
      go_wp2_with fail
      refine c.mono ?_
      rintro e wk21 ⟨rfl, hE⟩
      have hD := hE
      clear c hE
      have c := d2_writes HH.out hD 2 (by decide) (by decide)
      simp only [Int.cast_ofNat_Int] at c
      clear hD
      go_wp2_with fail
      refine c.mono ?_
      rintro e wk22 ⟨rfl, hE⟩
      have hD := hE
      clear c hE
      have c := d2_read HH.out hD (0) [120] 0 (by decide) (by decide) (by decide) (by decide)
      rw [show errE 0 = Value.nilIface from rfl] at c
      rw [show tx [120] = (⟨#[120]⟩ : ByteArray) from rfl] at c
      clear hD
      go_wp2_with fail
      refine c.mono ?_
      rintro e wk23 ⟨rfl, hE⟩
      have hD := hE
      clear c hE
      have c := d2_cut HH.out hD (-1) (-1) (by decide) (by decide)
      simp only at c
      clear hD
      go_wp2_with fail
      refine c.mono ?_
      rintro e wk24 ⟨⟨u24, rfl⟩, hE⟩
      have hD := hE
      clear c hE
      have c := d2_write (d' := (⟨2, -1, [(1, ([97] : List UInt8)), (0, ([120] : List UInt8)), (0, ([121] : List UInt8))]⟩ : Dsk)) HH.out hD (0) [121] 0 (by decide) (by decide) (by decide) (by decide) (by first | exact wrD_yes _ _ _ (by decide) | (rw [wrD_yes _ _ _ (by decide)]; rfl))
      rw [show errE 0 = Value.nilIface from rfl] at c
      rw [show tx [121] = (⟨#[121]⟩ : ByteArray) from rfl] at c
      clear hD
      go_wp2_with fail
      refine c.mono ?_
      rintro e wk25 ⟨rfl, hE⟩
      have hD := hE
      clear c hE
      have c := d2_trail HH.out hD (by decide)
      simp only at c
      clear hD
      go_wp2_with fail
      refine c.mono ?_
      rintro e wt ⟨⟨ta, tc, rfl, hRt⟩, hE⟩
      have hb5 : Below wt.heap.size wt (wt.alloc (.cells #[nu 1, .string ⟨#[97]⟩, nu 0, .string ⟨#[120]⟩, nu 0, .string ⟨#[121]⟩] 33)) := (Below.refl _ _).alloc (Nat.le_refl _) _
      have c5 := sameRaws_eq _ _ _ _ (hRt.below hb5) (lit3 wt)
      have HD5 := Hid.mk' (hE.below HH.out hb5)
      clear c hE hRt hb5
      go_wp2_with fail
      refine c5.mono ?_
      rintro e wk26 ⟨rfl, hb6⟩
      have hD := HD5.out.below HH.out hb6
      clear c5 hb6 HD5
      have c := d2_cut HH.out hD (0) (0) (by decide) (by decide)
      simp only at c
      clear hD
      go_wp2_with fail
      refine c.mono ?_
      rintro e wk27 ⟨⟨u27, rfl⟩, hE⟩
      have hD := hE
      clear c hE
      have c := d2_afterYes HH.out hD 2 [(1, ([97] : List UInt8)), (0, ([120] : List UInt8))] (by decide) (by decide) (by decide)
      simp only [Int.cast_ofNat_Int] at c
      clear hD
      go_wp2_with fail
      refine c.mono ?_
      rintro e wk28 ⟨r, rfl, hE⟩
      have hD := hE
      clear c hE
      have c := d2_afterNo HH.out hD 4 (by decide) (by decide) (by decide)
      clear hD
      go_wp2_with fail
      refine c.mono ?_
      rintro e wk29 ⟨rfl, hE⟩
      have hD := hE
      clear c hE
      have c := d2_afterNo HH.out hD (-1) (by decide) (by decide) (by decide)
      clear hD
      go_wp2_with fail
      refine c.mono ?_
      rintro e wk30 ⟨rfl, hE⟩
      have hD := hE
      clear c hE
      have c := d2_num HH.out hD 1 (by decide) (by decide)
      simp only [Int.cast_ofNat_Int, Int.natCast_one] at c
      clear hD
      go_wp2_with fail
      refine c.mono ?_
      rintro e wk31 ⟨rfl, hE⟩
      have hD := hE
      clear c hE
      have c := d2_num HH.out hD 1 (by decide) (by decide)
      simp only [Int.cast_ofNat_Int, Int.natCast_one] at c
      clear hD
      go_wp2_with fail
      refine c.mono ?_
      rintro e wk32 ⟨rfl, hE⟩
      have hD := hE
      clear c hE
      have c := d2_write (d' := (⟨2, -1, [(1, ([97] : List UInt8)), (0, ([120] : List UInt8)), (1, ([113] : List UInt8))]⟩ : Dsk)) HH.out hD.swap 1 [113] 0 (by decide) (by decide) (by decide) (by decide) (by rw [wrD_yes _ _ _ (by decide)]; rfl)
      rw [show errE 0 = Value.nilIface from rfl, show tx [113] = (⟨#[113]⟩ : ByteArray) from rfl] at c
      clear hD
      go_wp2_with fail
      refine c.mono ?_
      rintro e wk33 ⟨rfl, hE⟩
      have hD := hE.swap
      clear c hE
      have c := d2_write (d' := (⟨2, 0, [(1, ([97] : List UInt8)), (0, ([120] : List UInt8)), (0, ([121] : List UInt8))]⟩ : Dsk)) HH.out hD (1) [113] 22 (by decide) (by decide) (by decide) (by decide) (by first | exact wrD_no _ _ _ 21 (by decide) | (rw [wrD_no _ _ _ 21 (by decide)]; rfl))
      rw [show errE 22 = noE 22 from rfl] at c
      rw [show tx [113] = (⟨#[113]⟩ : ByteArray) from rfl] at c
      clear hD
      go_wp2_with fail
      refine c.mono ?_
      rintro e wk34 ⟨rfl, hE⟩
      have hD := hE
      clear c hE
      have c := d2_num HH.out hD 22 (by decide) (by decide)
      simp only [Int.cast_ofNat_Int, Int.natCast_one] at c
      clear hD
      go_wp2_with fail
      refine c.mono ?_
      rintro e wk35 ⟨rfl, hE⟩
      have hD := hE
      clear c hE
      have c := d2_read HH.out hD.swap 0 [120] 0 (by decide) (by decide) (by decide) (by decide)
      rw [show errE 0 = Value.nilIface from rfl, show tx [120] = (⟨#[120]⟩ : ByteArray) from rfl] at c
      clear hD
      go_wp2_with fail
      refine c.mono ?_
      rintro e wk36 ⟨rfl, hE⟩
      have hD := hE.swap
      clear c hE
      have c := d2_read HH.out hD (1) [97] 0 (by decide) (by decide) (by decide) (by decide)
      rw [show errE 0 = Value.nilIface from rfl] at c
      rw [show tx [97] = (⟨#[97]⟩ : ByteArray) from rfl] at c
      clear hD
      go_wp2_with fail
      refine c.mono ?_
      rintro e wk37 ⟨rfl, hE⟩
      have hD := hE
      clear c hE
      have c := d2_writes HH.out hD.swap 3 (by decide) (by decide)
      simp only [Int.cast_ofNat_Int] at c
      clear hD
      go_wp2_with fail
      refine c.mono ?_
      rintro e wk38 ⟨rfl, hE⟩
      have hB := Hid.mk' hE.bel
      clear c hE
      go_wp2
      go_ret
      exact ⟨rfl, hB.out⟩
end Dk
end Go.Proofs.Ytcglehekiibgeaa
