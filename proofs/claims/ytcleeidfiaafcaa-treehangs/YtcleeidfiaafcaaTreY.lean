import Derived.Test.YtcleeidfiaafcaaTreX
/- The outright law's own row of all below a slot. -/
namespace Go.Proofs.Ytcleeidfiaafcaa
set_option linter.ambiguousOpen false
open Go.RowKit
namespace Tr
open An Rg Ft Lv
set_option linter.unusedSimpArgs false
set_option linter.unusedVariables false
attribute [local go_sem] Oper.semAt_some

/-- All below a slot, as parents were chosen. -/
@[irreducible] def preU (up : List Int) (cut : Int) (f i : Nat) : List Nat := pre (fun j => kidsU up j cut) f i

theorem preU_succ (up : List Int) (cut : Int) (f i : Nat) : preU up cut (f + 1) i = i :: (kidsU up i cut).flatMap (preU up cut f) := by
  have : preU up cut f = pre (fun j => kidsU up j cut) f := by funext j; unfold preU; rfl
  rw [this]
  unfold preU
  rfl

theorem preU_few {up : List Int} (hu : Ups up) (hup : up.length ≤ 32) (cut : Int) (f i : Nat) (hi : i < up.length) : (preU up cut f i).length ≤ 32 := by
  unfold preU
  obtain ⟨h1, h2⟩ := preU_ok hu hup cut f i hi
  exact nodup_few 32 _ h1 h2

theorem own_bel {w w' : World} {base : Nat} {e : TypeId} {size : Nat} {v : Value} {n : Nat} {xs : List Value} (h : w.ownsRow base e size v n xs) (hb : Below w.heap.size w w') : w'.ownsRow base e size v n xs := (Keep.of_below (F := fun _ => False) hb).own h (fun _ _ h => h)

theorem one_row (w : World) (i : Nat) : (w.alloc (.cells #[nun i] 3)).ownsRow w.heap.size 3 1 (.slice (some ⟨w.heap.size, 0, none⟩) 1 1) 1 ([i].map nun) := by
  have := World.ownsRow_lit (size := 1) (e := 3) w #[nun i] 1 (base := w.heap.size) (Nat.le_refl _) (by unfold maxLen; omega) (by simp)
  simpa using this

set_option maxRecDepth 100000 in
set_option maxHeartbeats 4000000 in
theorem under_any (v : Value) (up : List Int) (cut : Int) (hu : Ups up) (hup : up.length ≤ 32) :
    ∀ (f i : Nat) (w : World), RdJ w v up → i < up.length → up.length ≤ f + i →
      Calls Try.prog 13 #[v, nun i, nu cut] w fun e w' => ∃ v', e = .returned v' ∧ w'.ownsRow w.heap.size 3 1 v' (preU up cut (f + 1) i).length ((preU up cut (f + 1) i).map nun) ∧ Below w.heap.size w w'
  | 0, i, w, _, h2, h3 => by omega
  | f + 1, i, w, h1, h2, h3 => by
    obtain ⟨i0, ji, hz0, hz1, hz2⟩ := info_parts info_int
    have cK : Hid (∀ wx, Below w.heap.size w wx → Calls Try.prog 12 #[v, nun i, nu cut] wx fun e w' => ∃ v', e = .returned v' ∧ w'.ownsRow wx.heap.size 3 1 v' (kidsU up i cut).length ((kidsU up i cut).map nun) ∧ Below wx.heap.size wx w') := fun wx hx => kids_any v up i cut wx (h1.below hx) hup
    have IH : Hid (∀ (x : Nat) (wx : World), Below w.heap.size w wx → x ∈ kidsU up i cut → Calls Try.prog 13 #[v, nun x, nu cut] wx fun e w' => ∃ v', e = .returned v' ∧ w'.ownsRow wx.heap.size 3 1 v' (preU up cut (f + 1) x).length ((preU up cut (f + 1) x).map nun) ∧ Below wx.heap.size wx w') := fun x wx hx hm => by
      obtain ⟨g1, g2⟩ := kidsU_lt hu hm
      exact under_any v up cut hu hup f x wx (h1.below hx) g2 (by omega)
    have hfew := preU_few hu hup cut (f + 2) i h2
    rw [show f + 1 + 1 = f + 2 from rfl]
    rw [preU_succ] at hfew ⊢
    have hne : ∀ x, 0 < (preU up cut (f + 1) x).length := fun x => by rw [preU_succ]; simp
    generalize preU up cut (f + 1) = P at *
    obtain ⟨K, hK⟩ : ∃ K, kidsU up i cut = K := ⟨_, rfl⟩
    rw [hK] at cK IH hfew ⊢
    obtain ⟨N, hN⟩ : ∃ N, K.length = N := ⟨_, rfl⟩
    rw [hN] at cK
    have hN32 : N ≤ 32 := by
      have := kidsU_le up i cut
      rw [hK, hN] at this
      omega
    have HN := Hid.mk' hN
    have HF : Hid (∀ k, (i :: (K.take k).flatMap P).length ≤ 32) := fun k => by
      have e : (K.take k).flatMap P ++ (K.drop k).flatMap P = K.flatMap P := by rw [← List.flatMap_append, List.take_append_drop]
      have := congrArg List.length e
      simp only [List.length_append, List.length_cons] at this hfew ⊢
      omega
    have HE := Hid.mk' hne
    obtain ⟨R, hR⟩ : ∃ R, i :: K.flatMap P = R := ⟨_, rfl⟩
    rw [hR]
    have HR := Hid.mk' hR
    clear hR
    obtain ⟨av, cv, rfl, hc1, hc2, _⟩ := h1
    unfold maxLen at hc2
    have HO0 := Hid.mk' (one_row w i)
    have hBA : Below w.heap.size w (w.alloc (.cells #[nun i] 3)) := (Below.refl _ _).alloc (Nat.le_refl _) _
    have HBA := Hid.mk' hBA
    have hsA : (w.alloc (.cells #[nun i] 3)).heap.size = w.heap.size + 1 := by simp
    have C0 := Hid.mk' (cK.out _ hBA)
    clear hK hN hfew hne cK hBA h2 h3 hu
    go_enter Try.func13, Try.ntmps13
    go_upto_region 2 with fail
    generalize w.alloc (.cells #[nun i] 3) = wA at *
    go_wp2_with fail
    refine C0.out.mono ?_
    rintro e w1 ⟨vk, rfl, hok, hb1⟩
    obtain ⟨ak, ck, rfl, hkc, hkm, _⟩ := Nm.own_shape hok
    have HOK := Hid.mk' hok
    have HO1 := Hid.mk' (own_bel HO0.out hb1)
    have HB1 : Hid (Below w.heap.size w w1) := HBA.out.trans (hb1.mono HBA.out.size)
    have HS1 : Hid (Nm.Sep (.slice (some ⟨w.heap.size, 0, none⟩) 1 1) (.slice ak N ck)) := fun b hb hk => by
      have e1 : w.heap.size = b := by simpa [Value.ownBlock] using hb
      have := (hok.lt b hk).1
      omega
    unfold maxLen at hkm
    clear hok hb1 HO0 HBA C0 hsA
    go_wp2
    go_loopw [7, 9] (fun lv kv wr => ∃ (k : Nat) (a : Option Addr) (n c : Nat), k ≤ N ∧ n ≤ 32 ∧ kv = nun k ∧ lv = .slice a n c ∧ Hid ((i :: (K.take k).flatMap P).length = n) ∧ Hid (wr.ownsRow w.heap.size 3 1 (.slice a n c) n ((i :: (K.take k).flatMap P).map nun)) ∧ Hid (wr.ownsRow wA.heap.size 3 1 (.slice ak N ck) N (K.map nun)) ∧ Hid (Nm.Sep (.slice a n c) (.slice ak N ck)) ∧ Hid (Below w.heap.size w wr)) (fun _ kv _ => N - (intOf kv).toNat)
    case atStart => exact ⟨0, some ⟨w.heap.size, 0, none⟩, 1, 1, Nat.zero_le _, by omega, rfl, rfl, rfl, HO1, HOK, HS1, HB1⟩
    case round =>
      clear HOK HO1 HB1 HS1
      obtain ⟨k, a, n, c, hk, hn, rfl, rfl, HL, HO, HOK, HS, HB⟩ := hrel
      by_cases hlt : k < N
      · have hkI : (k : Int) < (N : Int) := by omega
        obtain ⟨y, hy⟩ : ∃ y, K[k]? = some y := ⟨_, List.getElem?_eq_getElem (by rw [HN.out]; exact hlt)⟩
        obtain ⟨gl, hgl⟩ : ∃ gl, ak = some ⟨gl, 0, none⟩ := by
          obtain ⟨a', c', e, _, _, h9⟩ := Nm.own_shape HOK.out
          simp only [Value.slice.injEq, true_and] at e
          obtain ⟨rfl, rfl⟩ := e
          exact h9 (by omega)
        subst hgl
        have hcy : wr.cell? ⟨gl, k, none⟩ = some (nun y) := by
          have := HOK.out.cellAt (g := gl) (cap := ck) k (by omega)
          rw [this, List.getElem?_map, hy]
          rfl
        have htk : i :: (K.take (k + 1)).flatMap P = (i :: (K.take k).flatMap P) ++ P y := by
          rw [List.take_add_one, hy, List.flatMap_append]
          simp
        have C := Hid.mk' (IH.out y wr HB.out (List.mem_of_getElem? hy))
        have hf2 := HF.out (k + 1)
        rw [htk, List.length_append, HL.out] at hf2
        have hey := HE.out y
        obtain ⟨m, hm⟩ : ∃ m, (P y).length = m := ⟨_, rfl⟩
        rw [hm] at C hf2 hey
        have HTK := Hid.mk' htk
        have HM := Hid.mk' hm
        clear hy htk hm
        go_wp2_with fail
        refine C.out.mono ?_
        rintro e w2 ⟨v2, rfl, ho2, hb2⟩
        obtain ⟨a2, c2, rfl, h2c, h2m, h2s⟩ := Nm.own_shape ho2
        obtain ⟨g2, rfl⟩ := h2s hey
        have HO2 := Hid.mk' ho2
        have HOl := Hid.mk' (own_bel HO.out hb2)
        have HOk := Hid.mk' (own_bel HOK.out hb2)
        have HB2 : Hid (Below w.heap.size w w2) := HB.out.trans (hb2.mono HB.out.size)
        have HNW : Hid (∀ j u, ((P y).map nun)[j]? = some u → w2.cell? ((⟨g2, 0, none⟩ : Addr).add j) = some u) := fun j u hj => HO2.out.cells (g := g2) rfl j u hj
        have HON : Hid (∀ u ∈ (P y).map nun, u.oneCell' = true) := fun u hu => by
          obtain ⟨b, _, rfl⟩ := List.mem_map.1 hu
          rfl
        have HLM : Hid (((P y).map nun).length = m * 1) := by show _ = _; rw [List.length_map, HM.out, Nat.mul_one]
        clear ho2 hb2 h2s C hcy HO HOK HB
        go_wp2_with (first | (at_builtin; refine Nm.wpList_append_keep _ rfl _ _ 22 rfl w.heap.size 3 i0 (.int .i64 0) 1 8 Try.underlying22 ji hz0 hz1 hz2 rfl (by decide) _ n _ rfl HOl.out ⟨g2, 0, none⟩ m c2 ((P y).map nun) rfl HLM.out HNW.out HON.out (by unfold maxLen; omega) (by omega) HB2.out.size hey ?_; intro v4 w4 hg4; obtain ⟨ho4, hgr4, _, hp4⟩ := hg4; obtain ⟨a4, c4, rfl, _⟩ := Nm.own_shape ho4; have HO4 := Hid.mk' ho4; have HB4 : Hid (Below w.heap.size w w4) := (HB2.out.grown hgr4 HB2.out.size (fun r e => (HOl.out.lt r e).1)); have HOk4 := Hid.mk' (HOk.out.kept hgr4 (.inr (fun e => HS.out gl e.symm rfl))); have HS4 : Hid (Nm.Sep (.slice a4 (n + m) c4) (.slice (some ⟨gl, 0, none⟩) N ck)) := (fun b hb hk => by rcases hp4 with e | ⟨b', e, hb'⟩; exact HS.out b (e.symm.trans hb) hk; have e2 := Option.some.inj (hb.symm.trans e); have := (HOk.out.lt b hk).2; omega); clear ho4 hgr4 hp4) | fail)
        go_roundw
        case rel => exact ⟨k + 1, a4, n + m, c4, by omega, by omega, by go_num, rfl, by show _ = _; rw [HTK.out, List.length_append, HL.out, HM.out], by rw [HTK.out, List.map_append]; exact HO4, HOk4, HS4, HB4⟩
        case measure => simp [intOf]; omega
      · have hkI : ¬ (k : Int) < (N : Int) := by omega
        have hkN : K.take k = K := List.take_of_length_le (by rw [HN.out]; omega)
        rw [hkN, HR.out] at HL HO
        clear hkN IH HOK HS HF HE
        go_wp2
        go_ret
        exact ⟨_, rfl, by rw [HL.out]; exact HO.out, HB.out⟩
end Tr
end Go.Proofs.Ytcleeidfiaafcaa
