/- Slots are pushed one behind the other; what each law asks first. -/
import Derived.Test.YtckgecmcjnhceaaDoorRngW
namespace Go.Proofs.YtckgecmcjnhceaaDoor
set_option linter.ambiguousOpen false
open Go.RowKit
namespace Rg
open An Ft Lv
set_option linter.unusedSimpArgs false
set_option linter.unusedVariables false

theorem lastI_snoc (l : List Nat) (x : Nat) : lastI (l ++ [x]) = x := lastI_some (by simp)

set_option maxRecDepth 100000 in
set_option maxHeartbeats 4000000 in
theorem laid_any {Rep : World → Nat → (Nat → Prop) → Arn → Prop} (CP : PushC Rep) (w0 w : World) (p : Nat) (A : Arn) (R : Nat → Prop) (v : Value) (l : List Nat) (h : Sr Rep w0 w p A R) (hw : A.wr ≤ 900000000) (hR : RdO w v l) (hv : ∀ k, blk v k → R k) (hn : l.Nodup) (hl : ∀ i ∈ l, i < 32) :
    Calls Tryd.prog 36 #[ptr p, v] w fun e w' => e = .returned (.tuple #[nu (lastI l), .bool true]) ∧ ∃ A', A'.wr ≤ A.wr + 96 ∧ Ring A'.sl l ∧ (∀ m, Ring A.sl m → (∀ x ∈ m, x ∉ l) → Ring A'.sl m) ∧ Sr Rep w0 w' p A' R ∧ Kp R w w' := by
  have HRO := Hid.mk' hR
  have hfew := nodup_few 32 l hn hl
  obtain ⟨av, cv, rfl, hc1, hc2, _⟩ := hR
  obtain ⟨N, hN⟩ : ∃ N, l.length = N := ⟨_, rfl⟩
  rw [hN] at hc1 hfew HRO hv ⊢
  unfold maxLen at hc2
  have HN := Hid.mk' hN
  have HV := Hid.mk' hv
  have HND := Hid.mk' hn
  have HLT := Hid.mk' hl
  have H0 : Hid (∃ A', A'.wr ≤ A.wr + 3 * 0 ∧ Ring A'.sl (l.take 0) ∧ (∀ m, Ring A.sl m → (∀ x ∈ m, x ∉ l) → Ring A'.sl m) ∧ Sr Rep w0 w p A' R ∧ Kp R w w) := ⟨A, Nat.le_refl _, Ring.nil _, fun m hm _ => hm, h, Keep.refl _ _⟩
  have cP : Hid (∀ wx A' pre x, Sr Rep w0 wx p A' R → A'.wr ≤ 999999990 → Ring A'.sl pre → x < 32 → x ∉ pre → _) := fun wx A' pre x h1 h2 h3 h4 h5 => push_sr CP w0 wx p A' R pre x h1 h2 h3 h4 h5
  have hwI : Hid (A.wr ≤ 900000000) := hw
  have hcI : (cv : Int) ≤ 9223372036854775807 := by omega
  clear CP h hw hv hn hl hN
  go_enter Tryd.func36, Tryd.ntmps36
  go_wp2
  go_loopw [6, 7] (fun lv iv wr => ∃ (k : Nat) (z : Int), k ≤ N ∧ iv = nun k ∧ lv = nu z ∧ Hid (z = lastI (l.take k)) ∧ Hid (∃ A', A'.wr ≤ A.wr + 3 * k ∧ Ring A'.sl (l.take k) ∧ (∀ m, Ring A.sl m → (∀ x ∈ m, x ∉ l) → Ring A'.sl m) ∧ Sr Rep w0 wr p A' R ∧ Kp R w wr)) (fun _ iv _ => N - (intOf iv).toNat)
  case atStart => exact ⟨0, -1, Nat.zero_le _, rfl, rfl, by show _ = _; rw [List.take_zero]; rfl, H0⟩
  case round =>
    clear H0
    obtain ⟨k, z, hk, rfl, rfl, HZ, HA⟩ := hrel
    by_cases hlt : k < N
    · have hkI : (k : Int) < (N : Int) := by omega
      obtain ⟨x, hx⟩ : ∃ x, l[k]? = some x := ⟨_, List.getElem?_eq_getElem (by rw [HN.out]; exact hlt)⟩
      have htk : l.take k ++ [x] = l.take (k + 1) := by
        obtain ⟨h1, rfl⟩ := List.getElem?_eq_some_iff.1 hx
        exact (List.take_succ_eq_append_getElem h1).symm
      have hnt : x ∉ l.take k := fun hm => by
        have h1 : (l.take k ++ [x]).Nodup := by rw [htk]; exact HND.out.sublist (List.take_sublist _ _)
        exact (List.nodup_append.1 h1).2.2 x hm x (by simp) rfl
      obtain ⟨A', a1, a2, a3, a4, a5⟩ := HA.out
      have hx3 := HLT.out x (List.mem_of_getElem? hx)
      have C1 := Hid.mk' (cP.out wr A' (l.take k) x a4 (by have := hwI.out; omega) a2 hx3 hnt)
      rw [htk, ← HZ.out] at C1
      have HCX : Hid (∀ wx, Kp R w wx → ∃ g o, av = some ⟨g, o, none⟩ ∧ wx.cell? ⟨g, o + k, none⟩ = some (nun x)) := fun wx hkp => by
        obtain ⟨av', cv', e, _, _, h3⟩ := HRO.out.kept hkp HV.out
        simp only [Value.slice.injEq] at e
        obtain ⟨rfl, _, rfl⟩ := e
        obtain ⟨g, o, rfl, _, hc⟩ := h3 (by rw [HN.out]; omega)
        exact ⟨g, o, rfl, hc k x hx⟩
      obtain ⟨g, o, rfl, hcx⟩ := HCX.out wr a5
      have HNEXT : Hid (∀ wx, (∃ A'', A''.wr ≤ A'.wr + 3 ∧ A''.fr = A'.fr ∧ Ring A''.sl (l.take (k + 1)) ∧ (∀ m, Ring A'.sl m → (∀ y ∈ m, y ∉ l.take k ∧ y ≠ x) → Ring A''.sl m) ∧ Sr Rep w0 wx p A'' R ∧ Kp R wr wx) → (wx.cell? ⟨g, o + k, none⟩ = some (nun x)) ∧ ∃ A', A'.wr ≤ A.wr + 3 * (k + 1) ∧ Ring A'.sl (l.take (k + 1)) ∧ (∀ m, Ring A.sl m → (∀ x ∈ m, x ∉ l) → Ring A'.sl m) ∧ Sr Rep w0 wx p A' R ∧ Kp R w wx) := fun wx ⟨A'', b1, _, b3, b4, b5, b6⟩ => by
        have hkk : Kp R w wx := Kp.trans a5 b6
        obtain ⟨g', o', e, hc⟩ := HCX.out wx hkk
        simp only [Option.some.injEq, Addr.mk.injEq, and_true] at e
        obtain ⟨rfl, rfl⟩ := e
        refine ⟨hc, A'', by omega, b3, fun m hm hd => b4 m (a3 m hm hd) (fun y hy => ⟨fun e => hd y hy (List.mem_of_mem_take e), fun e => hd y hy (e ▸ List.mem_of_getElem? hx)⟩), b5, hkk⟩
      have HZ2 : Hid ((x : Int) = lastI (l.take (k + 1))) := by show _ = _; rw [← htk, lastI_snoc]
      have hxx : ((x : Int) != (x : Int)) = false := by simp
      clear hx htk hnt a1 a2 a3 a4 a5 HA HZ HCX
      go_wp2_with fail
      refine C1.out.mono ?_
      rintro e w2 ⟨rfl, hq⟩
      obtain ⟨hc2, hq2⟩ := HNEXT.out w2 hq
      have HQ2 := Hid.mk' hq2
      clear hq hq2 C1 hcx
      go_wp2
      go_roundw
      case rel => exact ⟨k + 1, (x : Int), by omega, by go_num, rfl, HZ2, HQ2⟩
      case measure => simp [intOf]; omega
    · have hkI : ¬ (k : Int) < (N : Int) := by omega
      obtain rfl : k = N := by omega
      have HT : Hid (l.take k = l) := List.take_of_length_le (by rw [HN.out]; exact Nat.le_refl _)
      go_wp2
      go_ret2
      obtain ⟨A', a1, a2, a3, a4, a5⟩ := HA.out
      rw [HT.out] at a2
      refine ⟨?_, A', by omega, a2, a3, a4, a5⟩
      have e : z = lastI l := by rw [HZ.out, HT.out]
      rw [← e]
      rfl

theorem ints_row (w : World) (l : List Nat) (hl : l.length ≤ 32) (ar : Array Value) (ha : ar = (l.map nun).toArray) (h0 : 0 < l.length) : (w.alloc (.cells ar 3)).ownsRow w.heap.size 3 1 (.slice (some ⟨w.heap.size, 0, none⟩) l.length l.length) l.length (l.map nun) := by
  subst ha
  have := World.ownsRow_lit (size := 1) (e := 3) w (l.map nun).toArray l.length (base := w.heap.size) (Nat.le_refl _) (by unfold maxLen; omega) (by simp)
  simpa using this

set_option maxRecDepth 100000 in
set_option maxHeartbeats 4000000 in
theorem works_any {Rep : World → Nat → (Nat → Prop) → Arn → Prop} (H : KeepC Rep) (CN : NewC Rep) (CP : PushC Rep) (CA : AllC Rep) (w : World) :
    Calls Tryd.prog 39 #[] w fun e w' => e = .returned (.bool true) ∧ Below w.heap.size w w' := by
  have c1 := Hid.mk' (CN w)
  have HH := Hid.mk' H
  have cL : Hid (∀ wx p A R v, Sr Rep w wx p A R → A.wr ≤ 900000000 → RdO wx v [4, 7] → (∀ k, blk v k → R k) → _) := fun wx p A R v h1 h2 h3 h4 => laid_any CP w wx p A R v [4, 7] h1 h2 h3 h4 (by decide) (by decide)
  have cA : Hid (∀ wx p A R, Sr Rep w wx p A R → Ring A.sl [4, 7] → _) := fun wx p A R h1 h2 => all_sr H CA w wx p A R [4, 7] h1 h2
  clear H CN CP CA
  go_enter Tryd.func39, Tryd.ntmps39
  go_wp2_with fail
  refine c1.out.mono ?_
  rintro e w1 ⟨p, F, rfl, hr1, hf1, hb1⟩
  have HB1 := Hid.mk' hb1
  have hO := ints_row w1 [4, 7] (by decide) #[.int .i64 4, .int .i64 7] rfl (by decide)
  have hbA : Below w1.heap.size w1 (w1.alloc (.cells #[.int .i64 4, .int .i64 7] 3)) := (Below.refl _ _).alloc (Nat.le_refl _) _
  have hS2 : Sr Rep w (w1.alloc (.cells #[.int .i64 4, .int .i64 7] 3)) p arn0 (fun k => k = w1.heap.size) :=
    Sr.more HH.out (R := fun _ => False) ⟨F, hr1, good0, hf1, hb1, fun k hk => hk.elim⟩ hbA (fun k hk => .inr (by subst hk; simp))
  have C2 := Hid.mk' (cL.out _ p arn0 _ _ hS2 (by decide) (rdO_own hO) (fun k hk => hk))
  simp only [show lastI [4, 7] = 7 from rfl, show [4, 7].length = 2 from rfl] at C2
  clear hr1 hf1 hb1 c1 hO hbA hS2 cL
  go_wp2_with fail
  refine C2.out.mono ?_
  rintro e w2 ⟨rfl, A', a1, a2, _, a4, _⟩
  have C3 := Hid.mk' (cA.out w2 p A' _ a4 a2)
  simp only [show lastI [4, 7] = 7 from rfl, show [4, 7].length = 2 from rfl] at C3
  have HB2 := Hid.mk' a4.bel
  clear a1 a2 a4 C2 cA
  go_wp2_with fail
  refine C3.out.mono ?_
  rintro e w3 ⟨v, rfl, ho, hb3⟩
  have hO4 := ints_row w3 [4, 7] (by decide) #[.int .i64 4, .int .i64 7] rfl (by decide)
  have hbB : Below w3.heap.size w3 (w3.alloc (.cells #[.int .i64 4, .int .i64 7] 3)) := (Below.refl _ _).alloc (Nat.le_refl _) _
  have C4 := Hid.mk' (sameN v _ [4, 7] _ ((own_rdN ho).below hbB) (own_rdN hO4))
  obtain ⟨a3, c3, rfl, _⟩ := Nm.own_shape ho
  have HB3 : Hid (Below w.heap.size w (w3.alloc (.cells #[.int .i64 4, .int .i64 7] 3))) := (HB2.out.trans (hb3.mono HB2.out.size)).alloc (Nat.le_trans HB2.out.size hb3.size) _
  simp only [show [4, 7].length = 2 from rfl] at C4
  clear ho hb3 hO4 hbB C3
  go_wp2_with fail
  refine C4.out.mono ?_
  rintro e w5 ⟨rfl, hb5⟩
  have HB5 : Hid (Below w.heap.size w w5) := HB3.out.trans (hb5.mono HB3.out.size)
  clear hb5 C4
  go_wp2
  go_ret
  exact ⟨rfl, HB5.out⟩
end Rg
end Go.Proofs.YtckgecmcjnhceaaDoor
