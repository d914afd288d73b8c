/- With the power cut, just the first writes are made. -/
import Derived.Test.YtcglehekiibgeaaOneK
namespace Go.Proofs.Ytcglehekiibgeaa
set_option linter.ambiguousOpen false
open Go.RowKit
namespace Dk
open Sm Ft
set_option linter.unusedSimpArgs false
set_option linter.unusedVariables false

theorem cutK_to (l : List UInt8) (k : Nat) (h : k ≤ l.length) (w : World) : (Instr.slice 9 (.string (tx l)) none (some (.int .i64 (k : Int))) none).run Try.prog w = .ok (.string (tx (l.take k))) w := by
  have hs : (tx l).size = l.length := rfl
  have hu := Try.underlying9
  have e : (tx l).extract 0 k = tx (l.take k) := by
    apply ByteArray.ext
    simp [ByteArray.data_extract]
  simp [Instr.slice, Instr.sliceBounds, Instr.sliceBound, asIntOf, run_underlying hu, hs, h, e]

theorem head_any (s : List UInt8) (w : World) (hs : s.length ≤ 140737488351232) : Calls Try.prog 10 #[.string (tx s), nu 256] w fun e w' => e = .returned (.string (tx (s.take 256))) ∧ w' = w := by
  have hz : (tx s).size = s.length := rfl
  by_cases h : s.length ≤ 256
  · have e : Hid (s.take 256 = s) := List.take_of_length_le h
    rw [e.out]
    have h' : (s.length : Int) ≤ 256 := by omega
    generalize tx s = b at *
    go_enter Try.func10, Try.ntmps10
    go_wp2
    go_ret
    exact ⟨rfl, rfl⟩
  · have hc := fun w => cutK_to s 256 (by omega) w
    have h' : ¬ (s.length : Int) ≤ 256 := by omega
    simp only [Int.cast_ofNat_Int] at hc
    generalize tx (s.take 256) = u at *
    generalize tx s = b at *
    go_enter Try.func10, Try.ntmps10
    go_wp2
    go_ret
    exact ⟨rfl, rfl⟩

/-- Behind i writes, the power cut behind so many. -/
structure Fs (Rep : World → Nat → (Nat → Prop) → Dsk → Prop) (w wr : World) (p B left i : Nat) (F : Nat → Prop) (d : Dsk) : Prop where
  on : On Rep w wr p F d
  n8 : d.n = 8
  lf : d.left = if i < left then (left : Int) - i else 0
  tl : d.tr.length = min i left
  tx : Tx wr B 31 8 (fun j => rdT d j)
  off : ¬ F B
  bb : w.heap.size ≤ B

theorem Fs.yes {Rep : World → Nat → (Nat → Prop) → Dsk → Prop} (H : Says Rep) {w wr wa : World} {p B left i : Nat} {F F' : Nat → Prop} {d : Dsk} (h : Fs Rep w wr p B left i F d) (k : Nat) (s : List UInt8) (hk : k < 8) (hs : s.length ≤ 256) (hi : i < left) (hr : Rep wa p F' (wrD d k s)) (hK : Keep F wr wa) (hG : Goes wr F F') :
    wa.cell? ⟨B, k, none⟩ = some (.string (Sm.tx (rdT d k))) ∧ (∀ j, wa.frozen? ⟨B, j, none⟩ = false) ∧ Fs Rep w (wa.setCell ⟨B, k, none⟩ (.string (Sm.tx s))) p B left (i + 1) F' (wrD d k s) := by
  have hl := h.lf
  rw [if_pos hi] at hl
  have hn : wrN d k s = 0 := by
    rw [wrN_in d k s (by rw [h.n8]; omega) hs, if_neg (by omega)]
  have hT := h.tx.keep hK h.off
  have hO := h.on.turned H hr hK hG
  have hBF : ¬ F' B := fun hf => by
    rcases hG B hf with h1 | h1
    · exact h.off h1
    · have := h.tx.lt
      omega
  have hTs := hT.set k s
  refine ⟨hT.cell k hk, hT.free, ⟨⟨?_, hO.fl, ?_⟩, ?_, ?_, ?_, ?_, hBF, h.bb⟩⟩
  · exact H.keep hr ((Keep.refl (fun x => x = B) wa).setCell (p := ⟨B, k, none⟩) (.inl rfl) _) (fun x hx e => hBF (by rw [← e]; exact hx))
  · exact hO.bel.setCell (p := ⟨B, k, none⟩) h.bb _
  · unfold wrD; rw [if_pos hn]; exact h.n8
  · unfold wrD
    rw [if_pos hn]
    show (if 0 < d.left then d.left - 1 else d.left) = _
    rw [hl, if_pos (by omega)]
    by_cases h2 : i + 1 < left
    · rw [if_pos h2]; omega
    · rw [if_neg h2]; omega
  · unfold wrD
    rw [if_pos hn]
    show (d.tr ++ [_]).length = _
    rw [List.length_append, h.tl, List.length_singleton]
    omega
  · refine hTs.same (fun j hj => ?_)
    rw [rdT_wrote d k s j hn (by rw [h.n8]; omega)]
    by_cases e : j = k
    · subst e
      rw [if_pos rfl, if_pos rfl]
    · rw [if_neg e, if_neg (by omega)]

theorem Fs.no {Rep : World → Nat → (Nat → Prop) → Dsk → Prop} (H : Says Rep) {w wr wa : World} {p B left i : Nat} {F F' : Nat → Prop} {d : Dsk} (h : Fs Rep w wr p B left i F d) (k : Nat) (s : List UInt8) (hk : k < 8) (hs : s.length ≤ 256) (hi : ¬ i < left) (hr : Rep wa p F' (wrD d k s)) (hK : Keep F wr wa) (hG : Goes wr F F') : Fs Rep w wa p B left (i + 1) F' d := by
  have hl := h.lf
  rw [if_neg hi] at hl
  have hn : wrN d k s = 22 := by
    rw [wrN_in d k s (by rw [h.n8]; omega) hs, if_pos hl]
  have hd : wrD d k s = d := by
    unfold wrD
    rw [if_neg (by omega)]
  rw [hd] at hr
  have hO := h.on.turned H hr hK hG
  exact ⟨hO, h.n8, by rw [hl, if_neg (by omega)], by rw [h.tl]; omega, h.tx.keep hK h.off, fun hf => by
    rcases hG B hf with h1 | h1
    · exact h.off h1
    · have := h.tx.lt
      omega, h.bb⟩

theorem Fs.below {Rep : World → Nat → (Nat → Prop) → Dsk → Prop} (H : Says Rep) {w wr w' : World} {p B left i : Nat} {F : Nat → Prop} {d : Dsk} (h : Fs Rep w wr p B left i F d) (hb : Below wr.heap.size wr w') : Fs Rep w w' p B left i F d :=
  ⟨h.on.below H hb, h.n8, h.lf, h.tl, h.tx.below hb, h.off, h.bb⟩

theorem min_run (a b : Int) (w : World) : (Builtin.min_ #[3, 3] 3 #[nu a, nu b]).run Try.prog w = .ok (nu (min a b)) w := by
  rw [run_min_int2]
  congr 2
  split <;> omega

theorem zero8s : (#[.string ⟨#[]⟩, .string ⟨#[]⟩, .string ⟨#[]⟩, .string ⟨#[]⟩, .string ⟨#[]⟩, .string ⟨#[]⟩, .string ⟨#[]⟩, .string ⟨#[]⟩] : Array Value) = arS 8 (fun _ => []) := rfl

set_option maxRecDepth 100000 in
set_option maxHeartbeats 8000000 in
theorem diskFirst_says {Rep : World → Nat → (Nat → Prop) → Dsk → Prop} (H : Says Rep) (v : Value) (l : List Raw) (n : Int) (w : World) (hR : RdR w v l) (hf : ∀ r ∈ l, (-9223372036854775808 ≤ r.1 ∧ r.1 ≤ 9223372036854775807) ∧ r.2.length ≤ 140737488351232) (hn : -9223372036854775808 ≤ n ∧ n ≤ 9223372036854775807) :
    Calls Try.prog 3 #[v, nu n] w fun e w' => e = .returned (.bool true) ∧ Below w.heap.size w w' := by
  have HH := Hid.mk' H
  have HF := Hid.mk' hf
  obtain ⟨a, cap, rfl, hl1, hl2, hcell⟩ := hR
  have HC := Hid.mk' hcell
  unfold maxLen at hl2
  have c0 := works_says H w
  have cP : Hid (∀ w, Calls Try.prog 8 #[nu n, nu 501] w fun e w' => e = .returned (nu (n % 501)) ∧ w' = w) := fun w => pick_any n 501 w (by decide) (by decide) hn
  obtain ⟨left, hleft, hl500⟩ : ∃ left : Nat, n % 501 = left ∧ left ≤ 500 := ⟨(n % 501).toNat, by omega, by omega⟩
  rw [hleft] at cP
  clear hf hcell H hleft
  go_enter Try.func3, Try.ntmps3
  go_wp2_with fail
  refine c0.mono ?_
  rintro e w1 ⟨rfl, hb1⟩
  have c1 := HH.out.newYes 8 w1 (by decide) (by decide)
  have HB1 := Hid.mk' hb1
  clear c0 hb1
  go_wp2_with fail
  refine c1.mono ?_
  rintro e w2 ⟨p, F, rfl, hRep, hF, hb2⟩
  have hO2 : On Rep w w2 p F ⟨8, -1, []⟩ := ⟨hRep, fun k hk => Nat.le_trans HB1.out.size (hF k hk), below_go HB1.out hb2⟩
  have HO2 := Hid.mk' hO2
  clear c1 hRep hF hb2 hO2 HB1
  go_wp2_with fail
  refine (cP.out _).mono ?_
  rintro e w' ⟨rfl, hw⟩
  subst w'
  have c2 := HH.out.cut w2 p F ⟨8, -1, []⟩ left HO2.out.rep (by omega)
  clear cP
  go_wp2_with fail
  refine c2.mono ?_
  rintro e w3 ⟨⟨u, rfl⟩, F3, h1, h2, h3⟩
  have hO3 := HO2.out.turned HH.out h1 h2 h3
  have hb4 : Below w3.heap.size w3 (w3.alloc (.cells #[.string ⟨#[]⟩, .string ⟨#[]⟩, .string ⟨#[]⟩, .string ⟨#[]⟩, .string ⟨#[]⟩, .string ⟨#[]⟩, .string ⟨#[]⟩, .string ⟨#[]⟩] 31)) := (Below.refl _ _).alloc (Nat.le_refl _) _
  have hS4 : Hid (Fs Rep w (w3.alloc (.cells #[.string ⟨#[]⟩, .string ⟨#[]⟩, .string ⟨#[]⟩, .string ⟨#[]⟩, .string ⟨#[]⟩, .string ⟨#[]⟩, .string ⟨#[]⟩, .string ⟨#[]⟩] 31)) p w3.heap.size left 0 F3 ⟨8, max (left : Int) (-1), []⟩) := by
    refine ⟨hO3.below HH.out hb4, rfl, ?_, by show (0 : Nat) = _; omega, ?_, fun hf => ?_, hO3.bel.size⟩
    · show max (left : Int) (-1) = _
      by_cases h0 : 0 < left
      · rw [if_pos h0]; omega
      · rw [if_neg h0]; omega
    · rw [zero8s]
      have : Tx (w3.alloc (.cells (arS 8 (fun _ => [])) 31)) w3.heap.size 31 8 (fun _ => []) := heap_alloc_new _ _
      refine this.same (fun j hj => ?_)
      unfold rdT
      split <;> rfl
    · have := HH.out.lt h1 _ hf
      omega
  clear c2 h1 h2 h3 hO3 hb4 HO2
  go_wp2
  go_loopw [9, 10, 11, 12] (fun iv _ _ _ wr => ∃ i : Nat, i ≤ l.length ∧ i ≤ 500 ∧ iv = nu i ∧ Hid (∃ F d, Fs Rep w wr p w3.heap.size left i F d)) (fun iv _ _ _ _ => l.length - (intOf iv).toNat)
  case atStart => exact ⟨0, Nat.zero_le _, by omega, rfl, ⟨_, _, hS4.out⟩⟩
  case round =>
    obtain ⟨i, hi, hi5, rfl, hG⟩ := hrel
    clear hS4
    obtain ⟨F1, d1, hS⟩ := hG.out
    have HS := Hid.mk' hS
    clear hG
    by_cases hq : i < l.length
    · by_cases hq5 : i < 500
      · obtain ⟨r, hr⟩ : ∃ r, l[i]? = some r := ⟨_, List.getElem?_eq_getElem hq⟩
        obtain ⟨g, o, rfl, hg, hc⟩ := HC.out (by omega)
        obtain ⟨q0, q1⟩ := hc i r hr
        rw [← hS.on.bel.cell (p := ⟨g, o + i * 2, none⟩) hg] at q0
        rw [← hS.on.bel.cell (p := ⟨g, o + i * 2 + 1, none⟩) hg] at q1
        obtain ⟨f1, f2⟩ := HF.out r (List.mem_of_getElem? hr)
        have c3 : Hid (∀ w, Calls Try.prog 8 #[nu r.1, nu 8] w fun e w' => e = .returned (nu (r.1 % 8)) ∧ w' = w) := fun w => pick_any r.1 8 w (by decide) (by decide) f1
        obtain ⟨k, hk, hk8⟩ : ∃ k : Nat, r.1 % 8 = k ∧ k < 8 := ⟨(r.1 % 8).toNat, by omega, by omega⟩
        rw [hk] at c3
        have c4 := head_any r.2 wr f2
        have hs6 : (r.2.take 256).length ≤ 256 := by rw [List.length_take]; omega
        have c5 := HH.out.write wr p F1 d1 k (r.2.take 256) hS.on.rep (by rw [hS.tl]; omega) (by omega) (by unfold maxLen; omega)
        have hwn := wrN_in d1 k (r.2.take 256) (by rw [hS.n8]; omega) hs6
        have z0 : (0 : Int) ≤ (i : Int) := by omega
        have z1 : (i : Int) < (l.length : Int) := by omega
        have z5 : (i : Int) < 500 := by omega
        have zk : (k : Int) < 8 := by omega
        clear hk hr hc f1 f2
        by_cases hil : i < left
        · have hlf := hS.lf
          rw [if_pos hil] at hlf
          rw [hwn, if_neg (by omega)] at c5
          unfold errE at c5
          have zl : (i : Int) < (left : Int) := by omega
          have hYes : Hid (∀ wa, (∃ F', Rep wa p F' (wrD d1 k (r.2.take 256)) ∧ Keep F1 wr wa ∧ Goes wr F1 F') → wa.cell? ⟨w3.heap.size, k, none⟩ = some (.string (tx (rdT d1 k))) ∧ (∀ j, wa.frozen? ⟨w3.heap.size, j, none⟩ = false) ∧ ∃ F d, Fs Rep w (wa.setCell ⟨w3.heap.size, k, none⟩ (.string (tx (r.2.take 256)))) p w3.heap.size left (i + 1) F d) := fun wa ⟨F', a1, a2, a3⟩ => by
            obtain ⟨b1, b2, b3⟩ := HS.out.yes HH.out k (r.2.take 256) hk8 hs6 hil a1 a2 a3
            exact ⟨b1, b2, _, _, b3⟩
          clear hlf hwn hs6 hS
          generalize tx (r.2.take 256) = st at *
          generalize r.1 = rb at *
          generalize tx r.2 = rt at *
          go_wp2_with fail
          refine (c3.out _).mono ?_
          rintro e w' ⟨rfl, hw⟩
          subst w'
          go_wp2_with fail
          refine c4.mono ?_
          rintro e w' ⟨rfl, hw⟩
          subst w'
          go_wp2_with fail
          refine c5.mono ?_
          rintro e wa ⟨rfl, hY⟩
          obtain ⟨y1, y2, y3⟩ := hYes.out wa hY
          have HY := Hid.mk' y3
          clear hY y3 hYes c3 c4 c5 q0 q1
          go_wp2
          go_roundw
          case rel => exact ⟨i + 1, by omega, by omega, vj (by omega), HY⟩
          case measure => simp [intOf]; omega
        · have hlf := hS.lf
          rw [if_neg hil] at hlf
          rw [hwn, if_pos hlf] at c5
          unfold errE at c5
          have zl : ¬ (i : Int) < (left : Int) := by omega
          have hNo : Hid (∀ wa, (∃ F', Rep wa p F' (wrD d1 k (r.2.take 256)) ∧ Keep F1 wr wa ∧ Goes wr F1 F') → ∃ F d, Fs Rep w wa p w3.heap.size left (i + 1) F d) := fun wa ⟨F', a1, a2, a3⟩ => ⟨_, _, HS.out.no HH.out k (r.2.take 256) hk8 hs6 hil a1 a2 a3⟩
          have c6 : Hid (∀ wx, Calls Try.prog 12 #[noE ((21 + 1 : Nat) : Int)] wx fun e w' => e = .returned (.int .i64 22) ∧ Below wx.heap.size wx w') := fun wx => Er.num_no 22 (by decide) (by decide) wx
          clear hlf hwn hs6 hS
          generalize tx (r.2.take 256) = st at *
          generalize r.1 = rb at *
          generalize tx r.2 = rt at *
          go_wp2_with fail
          refine (c3.out _).mono ?_
          rintro e w' ⟨rfl, hw⟩
          subst w'
          go_wp2_with fail
          refine c4.mono ?_
          rintro e w' ⟨rfl, hw⟩
          subst w'
          go_wp2_with fail
          refine c5.mono ?_
          rintro e wa ⟨rfl, hY⟩
          have HY := Hid.mk' (hNo.out wa hY)
          clear hY hNo c3 c4 c5 q0 q1
          go_wp2_with fail
          refine (c6.out _).mono ?_
          rintro e wb ⟨rfl, hbb⟩
          have HY2 : Hid (∃ F d, Fs Rep w wb p w3.heap.size left (i + 1) F d) := by
            obtain ⟨F, d, h⟩ := HY.out
            exact ⟨F, d, h.below HH.out hbb⟩
          clear hbb HY
          go_wp2
          go_roundw
          case rel => exact ⟨i + 1, by omega, by omega, vj (by omega), HY2⟩
          case measure => simp [intOf]; omega
      · have hi500 : i = 500 := by omega
        have z1 : (i : Int) < (l.length : Int) := by omega
        have z5 : ¬ (i : Int) < 500 := by omega
        clear hS
        go_wp2
        rename World => w5
        go_loopw [13, 14, 15] (fun kv _ _ wr => ∃ k : Nat, k ≤ 8 ∧ kv = nu k ∧ Hid (Fs Rep w wr p w3.heap.size left i F1 d1)) (fun kv _ _ _ => 8 - (intOf kv).toNat)
        case atStart => exact ⟨0, by omega, rfl, HS⟩
        case round =>
          obtain ⟨k, hk, rfl, hS5⟩ := hrel
          clear HS
          by_cases hk8 : k < 8
          · have c7 := HH.out.read wr p F1 d1 k hS5.out.on.rep (by rw [hS5.out.tl]; omega) (by omega)
            rw [rdN_in d1 k (by rw [hS5.out.n8]; omega)] at c7
            unfold errE at c7
            have hNx : Hid (∀ wa, Below wr.heap.size wr wa → Fs Rep w wa p w3.heap.size left i F1 d1 ∧ wa.cell? ⟨w3.heap.size, k, none⟩ = some (.string (tx (rdT d1 k)))) := fun wa hb => ⟨hS5.out.below HH.out hb, (hS5.out.below HH.out hb).tx.cell k hk8⟩
            have zk : (k : Int) < 8 := by omega
            have zk0 : (0 : Int) ≤ (k : Int) := by omega
            clear hS5
            generalize tx (rdT d1 k) = ft at *
            go_wp2_with fail
            refine c7.mono ?_
            rintro e wa ⟨rfl, hba⟩
            obtain ⟨y1, y2⟩ := hNx.out wa hba
            have HY := Hid.mk' y1
            clear c7 hba hNx y1
            go_wp2
            go_roundw
            case rel => exact ⟨k + 1, by omega, vj (by omega), HY⟩
            case measure => simp [intOf]; omega
          · obtain rfl : k = 8 := by omega
            simp only [Int.cast_ofNat_Int]
            have c8 := HH.out.restore wr p F1 d1 hS5.out.on.rep
            have HO := Hid.mk' hS5.out.on
            have htl := Hid.mk' hS5.out.tl
            have hn8 := Hid.mk' hS5.out.n8
            clear hS5
            go_wp2_with fail
            refine c8.mono ?_
            rintro e wa ⟨⟨u2, rfl⟩, F6, a1, a2, a3⟩
            have hO6 := HO.out.turned HH.out a1 a2 a3
            have c9 := HH.out.writes wa p F6 _ a1 (by show d1.tr.length ≤ _; rw [htl.out]; omega)
            have HO6 := Hid.mk' hO6
            clear c8 a1 a2 a3 hO6 HO
            have hm1 := min_run (l.length : Int) 500
            have hm2 := min_run (left : Int) (min (l.length : Int) 500)
            have hmq : (((d1.tr.length : Nat) : Int) == min (left : Int) (min (l.length : Int) 500)) = true := by
              rw [beq_iff_eq, htl.out]
              omega
            simp only at c9
            generalize ((d1.tr.length : Nat) : Int) = dl at *
            go_wp2_with fail
            refine c9.mono ?_
            rintro e wb ⟨rfl, hbb⟩
            have hO7 := HO6.out.below HH.out hbb
            have c10 := HH.out.write wb p F6 _ 0 [122] hO7.rep (by show d1.tr.length ≤ _; rw [htl.out]; omega) (by omega) (by decide)
            have hz : wrN ⟨d1.n, -1, d1.tr⟩ 0 [122] = 0 := by
              rw [wrN_in _ 0 [122] (by show 0 ≤ (0 : Int) ∧ (0 : Int) < d1.n; rw [hn8.out]; omega) (by decide)]
              rfl
            rw [hz, show tx [122] = (⟨#[122]⟩ : ByteArray) from rfl] at c10
            unfold errE at c10
            have HO7 := Hid.mk' hO7
            clear c9 hbb hO7 hz HO6
            go_wp2_with fail
            refine c10.mono ?_
            rintro e wc ⟨rfl, F8, a1, a2, a3⟩
            have hB8 := Hid.mk' (HO7.out.turned HH.out a1 a2 a3).bel
            clear c10 a1 a2 a3
            go_wp2
            go_ret
            exact ⟨rfl, hB8.out⟩
    · have hil : i = l.length := by omega
      have z1 : ¬ (i : Int) < (l.length : Int) := by omega
      clear hS
      go_wp2
      rename World => w5
      go_loopw [13, 14, 15] (fun kv _ _ wr => ∃ k : Nat, k ≤ 8 ∧ kv = nu k ∧ Hid (Fs Rep w wr p w3.heap.size left i F1 d1)) (fun kv _ _ _ => 8 - (intOf kv).toNat)
      case atStart => exact ⟨0, by omega, rfl, HS⟩
      case round =>
        obtain ⟨k, hk, rfl, hS5⟩ := hrel
        clear HS
        by_cases hk8 : k < 8
        · have c7 := HH.out.read wr p F1 d1 k hS5.out.on.rep (by rw [hS5.out.tl]; omega) (by omega)
          rw [rdN_in d1 k (by rw [hS5.out.n8]; omega)] at c7
          unfold errE at c7
          have hNx : Hid (∀ wa, Below wr.heap.size wr wa → Fs Rep w wa p w3.heap.size left i F1 d1 ∧ wa.cell? ⟨w3.heap.size, k, none⟩ = some (.string (tx (rdT d1 k)))) := fun wa hb => ⟨hS5.out.below HH.out hb, (hS5.out.below HH.out hb).tx.cell k hk8⟩
          have zk : (k : Int) < 8 := by omega
          have zk0 : (0 : Int) ≤ (k : Int) := by omega
          clear hS5
          generalize tx (rdT d1 k) = ft at *
          go_wp2_with fail
          refine c7.mono ?_
          rintro e wa ⟨rfl, hba⟩
          obtain ⟨y1, y2⟩ := hNx.out wa hba
          have HY := Hid.mk' y1
          clear c7 hba hNx y1
          go_wp2
          go_roundw
          case rel => exact ⟨k + 1, by omega, vj (by omega), HY⟩
          case measure => simp [intOf]; omega
        · obtain rfl : k = 8 := by omega
          simp only [Int.cast_ofNat_Int]
          have c8 := HH.out.restore wr p F1 d1 hS5.out.on.rep
          have HO := Hid.mk' hS5.out.on
          have htl := Hid.mk' hS5.out.tl
          have hn8 := Hid.mk' hS5.out.n8
          clear hS5
          go_wp2_with fail
          refine c8.mono ?_
          rintro e wa ⟨⟨u2, rfl⟩, F6, a1, a2, a3⟩
          have hO6 := HO.out.turned HH.out a1 a2 a3
          have c9 := HH.out.writes wa p F6 _ a1 (by show d1.tr.length ≤ _; rw [htl.out]; omega)
          have HO6 := Hid.mk' hO6
          clear c8 a1 a2 a3 hO6 HO
          have hm1 := min_run (l.length : Int) 500
          have hm2 := min_run (left : Int) (min (l.length : Int) 500)
          have hmq : (((d1.tr.length : Nat) : Int) == min (left : Int) (min (l.length : Int) 500)) = true := by
            rw [beq_iff_eq, htl.out]
            omega
          simp only at c9
          generalize ((d1.tr.length : Nat) : Int) = dl at *
          go_wp2_with fail
          refine c9.mono ?_
          rintro e wb ⟨rfl, hbb⟩
          have hO7 := HO6.out.below HH.out hbb
          have c10 := HH.out.write wb p F6 _ 0 [122] hO7.rep (by show d1.tr.length ≤ _; rw [htl.out]; omega) (by omega) (by decide)
          have hz : wrN ⟨d1.n, -1, d1.tr⟩ 0 [122] = 0 := by
            rw [wrN_in _ 0 [122] (by show 0 ≤ (0 : Int) ∧ (0 : Int) < d1.n; rw [hn8.out]; omega) (by decide)]
            rfl
          rw [hz, show tx [122] = (⟨#[122]⟩ : ByteArray) from rfl] at c10
          unfold errE at c10
          have HO7 := Hid.mk' hO7
          clear c9 hbb hO7 hz HO6
          go_wp2_with fail
          refine c10.mono ?_
          rintro e wc ⟨rfl, F8, a1, a2, a3⟩
          have hB8 := Hid.mk' (HO7.out.turned HH.out a1 a2 a3).bel
          clear c10 a1 a2 a3
          go_wp2
          go_ret
          exact ⟨rfl, hB8.out⟩
end Dk
end Go.Proofs.Ytcglehekiibgeaa
