/- Which record stands at a block: the document's answer. -/
import Derived.Test.YtjnodkjeiogloaaCvR
import Derived.Deep.RegionHeld3
namespace Go.Proofs.Ytjnodkjeiogloaa
set_option linter.ambiguousOpen false
open Go.RowKit
namespace Rc
open Sm Pk
set_option linter.unusedSimpArgs false
set_option linter.unusedVariables false

theorem slice_midT (a : Option Addr) (len cap i j : Nat) (h : i ≤ j) (hj : j ≤ cap) (w : World) : (Instr.slice 23 (.slice a len cap) (some (.int .i64 (i : Int))) (some (.int .i64 (j : Int))) none).run Try.prog w = .ok (.slice (further a cap i) (j - i) (cap - i)) w := by
  have h1 : (0 : Int) ≤ (i : Int) ∧ (i : Int) ≤ (j : Int) := by omega
  have h2 : (0 : Int) ≤ (j : Int) ∧ (j : Int) ≤ (cap : Int) := by omega
  have hu := Try.underlying23
  cases a with
  | none =>
    simp [Instr.slice, Instr.sliceBounds, Instr.sliceBound, asIntOf, run_underlying hu, further]
    rw [if_pos hj, if_pos h]
  | some ad =>
    simp [Instr.slice, Instr.sliceBounds, Instr.sliceBound, asIntOf, run_underlying hu, Addr.add, further]
    rw [if_pos hj, if_pos h]

/-- Some texts of a list. -/
theorem rd_part {w : World} {a : Option Addr} {ls : List (List UInt8)} {cap n : Nat} (hn : ls.length = n) (h : Nm.Rd w (.slice a n cap) ls) (i j : Nat) (hij : i ≤ j) (hj : j ≤ n) : Nm.Rd w (.slice (further a cap i) (j - i) (cap - i)) ((ls.drop i).take (j - i)) := by
  subst hn
  obtain ⟨a', cap', e, h1, h2, h3⟩ := h
  cases e
  have hl : ((ls.drop i).take (j - i)).length = j - i := by rw [List.length_take, List.length_drop]; omega
  refine ⟨further a cap i, cap - i, by rw [hl], by omega, by omega, fun h0 => ?_⟩
  rw [hl] at h0
  obtain ⟨g, o, rfl, e2, e3⟩ := h3 (by omega)
  refine ⟨g, o + i, ?_, e2, fun k hk => ?_⟩
  · unfold further
    simp only []
    rw [if_neg (by omega)]
    by_cases h0 : i = 0
    · subst h0; rfl
    · rw [if_neg h0]
  · rw [hl] at hk
    have := e3 (i + k) (by omega)
    rw [← Nat.add_assoc] at this
    rw [this, List.getElem_take, List.getElem_drop]

/-- The answer: a payload in new memory and how many blocks, or none. -/
def AnsO (r : Option (List UInt8 × Nat)) (w : World) (e : Ending) (w' : World) : Prop :=
  match r with
  | some (p, k) => ∃ v, e = .returned (.tuple #[v, nu (k : Int), .bool true]) ∧ OwnC w' w.heap.size v p ∧ Below w.heap.size w w'
  | none => ∃ a c k, e = .returned (.tuple #[.slice a c k, nu 0, .bool false]) ∧ Below w.heap.size w w' ∨ ∃ v k, e = .returned (.tuple #[v, k, .bool false]) ∧ Below w.heap.size w w'

theorem ans_no {r : Option (List UInt8 × Nat)} {w : World} {e : Ending} {w' : World} (hr : r = none) (v k : Value) (he : e = .returned (.tuple #[v, k, .bool false])) (hb : Below w.heap.size w w') : AnsO r w e w' := by
  subst hr
  exact ⟨none, 0, 0, .inr ⟨v, k, he, hb⟩⟩

theorem ans_yes {r : Option (List UInt8 × Nat)} {w : World} {e : Ending} {w' : World} {p : List UInt8} {k : Nat} (hr : r = some (p, k)) (v : Value) (he : e = .returned (.tuple #[v, nu (k : Int), .bool true])) (ho : OwnC w' w.heap.size v p) (hb : Below w.heap.size w w') : AnsO r w e w' := by
  subst hr
  exact ⟨v, he, ho, hb⟩

theorem one_nil (ep : Nat) : one ep [] = none := rfl

theorem one_short (ep : Nat) (b : List UInt8) (r : List (List UInt8)) (h : b.length < 11) : one ep (b :: r) = none := by
  unfold one
  simp only
  rw [if_pos h]

theorem one_big (ep : Nat) (b : List UInt8) (r : List (List UInt8)) (h : ¬ b.length < 11) (h2 : 512 < sizeB b) : one ep (b :: r) = none := by
  unfold one
  simp only
  rw [if_neg h, if_pos h2]

theorem one_gath (ep : Nat) (b : List UInt8) (r : List (List UInt8)) (h : ¬ b.length < 11) (h2 : ¬ 512 < sizeB b) : one ep (b :: r) = match gath (sizeB b) 3 (b.drop 11) 1 r with
      | none => none
      | some (p, k) => if p.length ≠ sizeB b then none else if blocks ep p = (b :: r).take k then some (p, k) else none := by
  unfold one
  simp only
  rw [if_neg h, if_neg h2]
  rfl

theorem wrapS (s : Nat) (h : s ≤ 140737488351232) : IntKind.i64.wrap (s : Int) = (s : Int) ∧ wrap64 (s : Int) = (s : Int) := by
  constructor
  · simp only [IntKind.wrap, IntKind.bits, IntKind.signed]
    simp
    omega
  · unfold wrap64
    omega

theorem gath_stop (n f : Nat) (q : List UInt8) (k : Nat) (l : List (List UInt8)) (h : f = 0 ∨ ¬ q.length < n ∨ l = []) : gath n f q k l = some (q, k) := by
  cases f with
  | zero => rfl
  | succ f =>
    unfold gath
    by_cases hq : q.length < n
    · rw [if_pos hq]
      rcases h with h | h | h
      · omega
      · exact absurd hq h
      · subst h
        rfl
    · rw [if_neg hq]

set_option maxRecDepth 100000 in
set_option maxHeartbeats 8000000 in
theorem refone (ep : Nat) (lv : Value) (ls : List (List UInt8)) (at_ : Nat) (w : World) (hep : ep < 4294967296) (hR : Nm.Rd w lv ls) (hat : at_ ≤ ls.length) (hln : ls.length ≤ 140737488351232) (hts : ∀ t ∈ ls, t.length ≤ 140737488350000) :
    Calls Try.prog 24 #[.int .u32 (ep : Int), lv, nu (at_ : Int)] w (AnsO (one ep (ls.drop at_)) w) := by
  have HR := Hid.mk' hR
  obtain ⟨n, hn⟩ : ∃ n, ls.length = n := ⟨_, rfl⟩
  obtain ⟨a, cap, rfl, hc1, hc2, hcells⟩ := hR
  obtain ⟨ans, hans⟩ : ∃ r, one ep (ls.drop at_) = r := ⟨_, rfl⟩
  have HA := Hid.mk' hans
  rw [hans]
  have HC : Hid (0 < n → ∃ g o, a = some ⟨g, o, none⟩ ∧ g < w.heap.size ∧ ∀ j t, ls[j]? = some t → w.cell? ⟨g, o + j, none⟩ = some (.string (tx t))) := fun h0 => by
    obtain ⟨g, o, e1, e2, e3⟩ := hcells (by omega)
    refine ⟨g, o, e1, e2, fun j t hj => ?_⟩
    obtain ⟨hj1, hj2⟩ := List.getElem?_eq_some_iff.1 hj
    rw [← hj2]
    exact e3 j hj1
  rw [hn] at HR hc1 hat hln ⊢
  unfold maxLen at hc2
  have HN := Hid.mk' hn
  have HT := Hid.mk' hts
  clear hn hcells hans hts
  have ha0 : (0 : Int) ≤ (at_ : Int) := by omega
  by_cases h1 : at_ < n
  · obtain ⟨b, hb⟩ : ∃ b, ls[at_]? = some b := ⟨ls[at_]'(by have := HN.out; omega), List.getElem?_eq_getElem _⟩
    have hbl := HT.out b (List.mem_of_getElem? hb)
    obtain ⟨g, o, rfl, hgl, hce⟩ := HC.out (by omega)
    have HCE := Hid.mk' hce
    clear hce HC
    have hcb := HCE.out at_ b hb
    have HD : Hid (ls.drop at_ = b :: ls.drop (at_ + 1)) := by
      show _ = _
      obtain ⟨hj1, hj2⟩ := List.getElem?_eq_some_iff.1 hb
      rw [← hj2]
      exact List.drop_eq_getElem_cons hj1
    have h1I : ¬ (n : Int) ≤ (at_ : Int) := by omega
    have h1J : (at_ : Int) < (n : Int) := by omega
    have hbs : (tx b).size = b.length := rfl
    by_cases h2 : b.length < 11
    · have hr : Hid (ans = none) := by
        show _ = _
        rw [← HA.out, HD.out]
        exact one_short ep b _ h2
      obtain ⟨f, hf⟩ : ∃ f, tx b = f := ⟨_, rfl⟩
      rw [hf] at hcb hbs
      have h2I : (f.size : Int) < 11 := by omega
      clear hf HD HCE hbs hb
      go_enter Try.func24, Try.ntmps24
      go_wp2
      go_ret3
      exact ans_no hr.out _ _ rfl (Below.refl _ _)
    · obtain ⟨z, hz⟩ : ∃ z, sizeB b = z := ⟨_, rfl⟩
      have HZ := Hid.mk' hz
      obtain ⟨c5, hc5⟩ : ∃ c : Nat, (byI b 5).toNat = c := ⟨_, rfl⟩
      obtain ⟨c6, hc6⟩ : ∃ c : Nat, (byI b 6).toNat = c := ⟨_, rfl⟩
      have i5 : ∀ wx, (Instr.index 9 (.string (tx b)) (.int .i64 5)).run Try.prog wx = .ok (.int .u8 (c5 : Int)) wx := fun wx => by
        have := idx_at b 5 (by omega) wx
        rw [← hc5]
        exact this
      have i6 : ∀ wx, (Instr.index 9 (.string (tx b)) (.int .i64 6)).run Try.prog wx = .ok (.int .u8 (c6 : Int)) wx := fun wx => by
        have := idx_at b 6 (by omega) wx
        rw [← hc6]
        exact this
      have hzI : (c5 : Int) + 256 * (c6 : Int) = (z : Int) := by
        have : z = c5 + 256 * c6 := by
          rw [← hz, ← hc5, ← hc6]
          rfl
        omega
      have l5 : c5 < 256 := by rw [← hc5]; exact (byI b 5).toNat_lt
      have l6 : c6 < 256 := by rw [← hc6]; exact (byI b 6).toNat_lt
      have hex : (tx b).extract 11 (tx b).size = tx (b.drop 11) := tx_drop b 11
      obtain ⟨f, hf⟩ : ∃ f, tx b = f := ⟨_, rfl⟩
      obtain ⟨fd, hfd⟩ : ∃ f, tx (b.drop 11) = f := ⟨_, rfl⟩
      rw [hf] at hcb hbs i5 i6
      rw [hf, hfd] at hex
      have h2I : ¬ (f.size : Int) < 11 := by omega
      clear hc5 hc6 hz hbs
      go_enter Try.func24, Try.ntmps24
      go_upto_region 3 with fail
      go_quiet (fail)
      have HB0 : Hid (Below w.heap.size w (w.drewN nq)) := below_dn (Below.refl _ _) nq
      have HC0 : Hid (∀ j t, ls[j]? = some t → (w.drewN nq).cell? ⟨g, o + j, none⟩ = some (.string (tx t))) := fun j t hj => HCE.out j t hj
      have HR0 : Hid (Nm.Rd (w.drewN nq) (.slice (some ⟨g, o, none⟩) n cap) ls) := HR.out.below HB0.out
      have HG0 : Hid (g < (w.drewN nq).heap.size) := hgl
      have hcb0 : (w.drewN nq).cell? ⟨g, o + at_, none⟩ = some (.string f) := hcb
      generalize w.drewN nq = w0 at *
      have HGW := Hid.mk' hgl
      have HRW := Hid.mk' HR.out
      clear hcb i5 i6 hzI l5 l6 HR hgl HC0
      by_cases h3 : 512 < z
      · have h3I : (512 : Int) < (z : Int) := by omega
        have hr : Hid (ans = none) := by
          show _ = _
          rw [← HA.out, HD.out]
          exact one_big ep b _ h2 (by rw [HZ.out]; exact h3)
        go_wp2
        go_ret3
        exact ans_no hr.out _ _ rfl HB0.out
      · have h3I : ¬ (512 : Int) < (z : Int) := by omega
        have HGA : Hid (ans = match gath z 3 (b.drop 11) 1 (ls.drop (at_ + 1)) with
            | none => none
            | some (p, k) => if p.length ≠ z then none else if blocks ep p = (ls.drop at_).take k then some (p, k) else none) := by
          show _ = _
          rw [← HA.out, HD.out, one_gath ep b _ h2 (by rw [HZ.out]; exact h3), HZ.out]
        obtain ⟨pv, w1, hcv, ho1, hb1⟩ := conv_c (b.drop 11) (by rw [List.length_drop]; unfold maxLen; omega) w0
        rw [hfd] at hcv
        have HO1 := Hid.mk' (show OwnC w1 w.heap.size pv (b.drop 11) from by
          rcases ho1 with h | ⟨g1, cp1, h⟩
          · exact .inl h
          · exact .inr ⟨g1, cp1, h.v, Nat.le_trans HB0.out.size h.b, h.lt, h.le, h.max, h.at_, h.there, h.free⟩)
        have HB1 := Hid.mk' (HB0.out.trans (hb1.mono HB0.out.size))
        obtain ⟨a1, cp1, rfl⟩ := ho1.shape
        have hdl : (b.drop 11).length ≤ 140737488350000 := by rw [List.length_drop]; omega
        obtain ⟨d0, hd0⟩ : ∃ d, b.drop 11 = d := ⟨_, rfl⟩
        rw [hd0] at hcv HO1 HGA hdl
        clear ho1 hb1 hd0 HA
        go_wp2
        clear hcb0
        go_loopw [10, 11, 12] (fun pv kv iv wr => ∃ (i k : Nat) (q : List UInt8), i ≤ 3 ∧ at_ + k ≤ n ∧ iv = nu (i : Int) ∧ kv = nu (k : Int) ∧ Hid (k = i + 1) ∧ q.length ≤ 140737488352000 ∧ Hid (gath z 3 d0 1 (ls.drop (at_ + 1)) = gath z (3 - i) q k (ls.drop (at_ + k))) ∧ Hid (OwnC wr w.heap.size pv q) ∧ Hid (Below w.heap.size w wr)) (fun _ _ iv _ => 3 - (intOf iv).toNat)
        case atStart => exact ⟨0, 1, d0, by omega, by omega, rfl, rfl, rfl, by omega, rfl, HO1, HB1⟩
        case round =>
        clear HO1 HB1 hcv HR0 HG0 HB0 hex
        obtain ⟨i, k, q, hi, hatk, rfl, rfl, hki, hql, hE, hO, hB⟩ := hrel
        have hkn : k ≤ 4 := by have := hki.out; omega
        by_cases c1 : i < 3 ∧ q.length < z ∧ at_ + k < n
        · obtain ⟨c1, c2, c3⟩ := c1
          obtain ⟨t, ht⟩ : ∃ t, ls[at_ + k]? = some t := ⟨ls[at_ + k]'(by have := HN.out; omega), List.getElem?_eq_getElem _⟩
          have htl := HT.out t (List.mem_of_getElem? ht)
          have hct : wr.cell? ⟨g, o + (at_ + k), none⟩ = some (.string (tx t)) := (hB.out.cell (p := ⟨g, o + (at_ + k), none⟩) HGW.out).trans (HCE.out _ _ ht)
          have HDT : Hid (ls.drop (at_ + k) = t :: ls.drop (at_ + (k + 1))) := by
            show _ = _
            obtain ⟨hj1, hj2⟩ := List.getElem?_eq_some_iff.1 ht
            rw [← hj2, ← Nat.add_assoc]
            exact List.drop_eq_getElem_cons hj1
          have HST : Hid (gath z (3 - i) q k (ls.drop (at_ + k)) = if t = [] then none else gath z (3 - (i + 1)) (q ++ t.drop 1) (k + 1) (ls.drop (at_ + (k + 1)))) := by
            show _ = _
            rw [HDT.out, show 3 - i = (3 - (i + 1)) + 1 by omega]
            simp only [gath]
            rw [if_pos c2]
          have b1 : (i : Int) < 3 := by omega
          have b2 : (q.length : Int) < (z : Int) := by omega
          have b3 : (at_ : Int) + (k : Int) < (n : Int) := by omega
          have hts : (tx t).size = t.length := rfl
          by_cases ht0 : t = []
          · subst ht0
            have hr : Hid (ans = none) := by
              show _ = _
              rw [HGA.out, hE.out, HST.out, if_pos rfl]
            obtain ⟨aq, cq, hv⟩ := hO.out.shape
            subst hv
            have hct' : wr.cell? ⟨g, o + (at_ + k), none⟩ = some (.string ⟨#[]⟩) := hct
            clear hct HST HDT ht
            go_wp2
            go_ret3
            exact ans_no hr.out _ _ rfl hB.out
          · have ht1 : 0 < t.length := List.length_pos_iff.2 ht0
            have hex2 : (tx t).extract 1 (tx t).size = tx (t.drop 1) := tx_drop t 1
            obtain ⟨ft, hft⟩ : ∃ f, tx t = f := ⟨_, rfl⟩
            obtain ⟨fe, hfe⟩ : ∃ f, tx (t.drop 1) = f := ⟨_, rfl⟩
            rw [hft] at hct hts
            rw [hft, hfe] at hex2
            have HFE := Hid.mk' hfe.symm
            have htI : ((ft.size : Int) == 0) = false := beq_eq_false_iff_ne.2 (by omega)
            have htJ : (1 : Int) ≤ (ft.size : Int) := by omega
            obtain ⟨aq, cq, hv⟩ := hO.out.shape
            subst hv
            have hbd : Hid (q.length + (t.drop 1).length ≤ 140737488355328) := by show _ ≤ _; rw [List.length_drop]; omega
            have HNX : Hid (gath z 3 d0 1 (ls.drop (at_ + 1)) = gath z (3 - (i + 1)) (q ++ t.drop 1) (k + 1) (ls.drop (at_ + (k + 1)))) := by
              show _ = _
              rw [hE.out, HST.out, if_neg ht0]
            have hnl : (q ++ t.drop 1).length ≤ 140737488352000 := by rw [List.length_append, List.length_drop]; omega
            clear hft hfe HST HDT ht ht0 ht1 hts hE
            go_wp2_with (at_builtin; refine wpList_append_textC rfl _ _ rfl w.heap.size _ _ q (t.drop 1) rfl rfl HFE.out hO.out hbd.out hB.out.size ?_; intro v' w4 ho hg; have HO4 := Hid.mk' ho; have HB4 : Hid (Below w.heap.size w w4) := Below.grown hB.out hg hB.out.size (fun k hk => (hO.out.lt k hk).1); clear ho hg)
            go_wp2
            go_roundw
            case rel => exact ⟨i + 1, k + 1, q ++ t.drop 1, by omega, by omega, by go_num, by go_num, (by show _ = _; rw [hki.out]), hnl, HNX, HO4, HB4⟩
            case measure => simp [intOf]; omega
        · have HGX : Hid (ans = match some (q, k) with
            | none => none
            | some (p, k) => if p.length ≠ z then none else if blocks ep p = (ls.drop at_).take k then some (p, k) else none) := by
            show _ = _
            rw [HGA.out, hE.out, gath_stop z (3 - i) q k _ (by
              by_cases q1 : i < 3
              · by_cases q2 : q.length < z
                · exact .inr (.inr (List.drop_eq_nil_of_le (by have := HN.out; omega)))
                · exact .inr (.inl q2)
              · exact .inl (by omega))]
          obtain ⟨aq, cq, hv⟩ := hO.out.shape
          subst hv
          clear hE HGA
          by_cases q1 : i < 3
          · have b1 : (i : Int) < 3 := by omega
            by_cases q2 : q.length < z
            · have b2 : (q.length : Int) < (z : Int) := by omega
              have b3 : ¬ (at_ : Int) + (k : Int) < (n : Int) := by omega
              by_cases hq : q.length = z
              · have hqz : Hid (ans = if blocks ep q = (ls.drop at_).take k then some (q, k) else none) := by
                  show _ = _
                  rw [HGX.out]
                  simp only
                  rw [if_neg (by simp [hq])]
                obtain ⟨al, hal⟩ : ∃ x, (some ⟨g, o, none⟩ : Option Addr) = x := ⟨_, rfl⟩
                rw [hal] at HRW ⊢
                obtain ⟨bb, hbb⟩ : ∃ c, decide (blocks ep q = (ls.drop at_).take k) = c := ⟨_, rfl⟩
                obtain ⟨s, hs⟩ : ∃ s, at_ + k = s := ⟨_, rfl⟩
                have hsum : (at_ : Int) + (k : Int) = (s : Int) := by omega
                have hsle : s ≤ 140737488351232 := by omega
                have hwrap : IntKind.i64.wrap ((at_ : Int) + (k : Int)) = (s : Int) := by rw [hsum]; exact (wrapS s hsle).1
                have hsl : ∀ wx, (Instr.slice 23 (.slice al n cap) (some (.int .i64 (at_ : Int))) (some (.int .i64 (s : Int))) none).run Try.prog wx = .ok (.slice (further al cap at_) k (cap - at_)) wx := fun wx => by
                  have := slice_midT al n cap at_ s (by omega) (by omega) wx
                  rw [show s - at_ = k by omega] at this
                  exact this
                have hpart : ∀ wx, Below w.heap.size w wx → Nm.Rd wx (.slice (further al cap at_) k (cap - at_)) ((ls.drop at_).take k) := fun wx hx => by
                  have := rd_part HN.out (HRW.out.below hx) at_ (at_ + k) (by omega) (by omega)
                  rw [Nat.add_sub_cancel_left] at this
                  exact this
                obtain ⟨ap, hap⟩ : ∃ x, further al cap at_ = x := ⟨_, rfl⟩
                obtain ⟨cpp, hcpp⟩ : ∃ x, cap - at_ = x := ⟨_, rfl⟩
                simp only [hap, hcpp] at hsl hpart
                obtain ⟨PB, hPB⟩ : ∃ x, (ls.drop at_).take k = x := ⟨_, rfl⟩
                obtain ⟨BB, hBB⟩ : ∃ x, blocks ep q = x := ⟨_, rfl⟩
                obtain ⟨nb, hnb⟩ : ∃ x, BB.length = x := ⟨_, rfl⟩
                have CB : Hid (∀ wx, Below wr.heap.size wr wx → Calls Try.prog 33 #[.int .u32 (ep : Int), .slice aq q.length cq] wx fun e w' => ∃ ax cx, e = .returned (.slice ax nb cx) ∧ Nm.Rd w' (.slice ax nb cx) BB ∧ Nm.Rd w' (.slice ap k cpp) PB ∧ Below wr.heap.size wr w') := fun wx hx => by
                  refine (refblocks ep (.slice aq q.length cq) q wx hep (hO.out.below hx).rd hO.out.nz (by omega)).mono ?_
                  rintro e w' ⟨x, rfl, ho, hb⟩
                  have hbw : Below wr.heap.size wr w' := hx.trans (hb.mono hx.size)
                  have hrd := Nm.rd_own ho
                  obtain ⟨ax, cx, e1, _⟩ := id hrd
                  rw [hBB] at hrd e1
                  subst e1
                  rw [hnb] at hrd ⊢
                  have hp := hpart w' (hB.out.trans (hbw.mono hB.out.size))
                  rw [hPB] at hp
                  exact ⟨ax, cx, rfl, hrd, hp, hbw⟩
                have CS : Hid (∀ wx v1 v2, Below wr.heap.size wr wx → Nm.Rd wx v1 BB → Nm.Rd wx v2 PB → Calls Try.prog 21 #[v1, v2] wx fun e w' => e = .returned (.bool bb) ∧ Below wr.heap.size wr w') := fun wx v1 v2 hx h1 h2 => by
                  refine (Nm.same_l v1 v2 BB PB wx h1 h2).mono ?_
                  rintro e w' ⟨rfl, m, rfl⟩
                  rw [← hbb, hBB, hPB]
                  exact ⟨rfl, below_dn hx m⟩
                have HBB := Hid.mk' hbb
                have hqI : ((q.length : Int) != (z : Int)) = false := by simp [hq]
                have hakI : (at_ : Int) + (k : Int) ≤ (n : Int) := by omega
                have hs0 : (s : Int) ≤ 140737488351232 := by omega
                have hs1 : (at_ : Int) ≤ (s : Int) := by omega
                have hs2 : (s : Int) ≤ (cap : Int) := by omega
                have hs3 : (s : Int) ≤ (n : Int) := by omega
                have hw2 := (wrapS s hsle).1
                have hw3 := (wrapS s hsle).2
                clear hbb hpart hap hcpp hPB hBB hnb hq hs hal
                go_wp2_with fail
                go_region_held3 (fun w' => Below wr.heap.size wr w') (first | assumption | exact Below.refl _ _ | exact (Below.refl _ _).drew) (first | (go_at_call 33; with_reducible refine (CB.out _ ?hb).mono ?_; (case hb => (first | exact Below.refl _ _ | exact (Below.refl _ _).drew | fail)); rintro e w5 ⟨ax, cx, rfl, hr1, hr2, hb5⟩) | (go_at_call 21; with_reducible refine (CS.out _ _ _ hb5 ?h1 ?h2).mono ?_; (case h1 => (first | exact hr1 | fail)); (case h2 => (first | exact hr2 | fail)); rintro e w6 ⟨rfl, hb6⟩) | fail)
                have hbw : Below wr.heap.size wr w6 := hb6
                have hbz : Below w.heap.size w w6 := hB.out.trans (hbw.mono hB.out.size)
                have HO6 := Hid.mk' (hO.out.below hbw)
                have HBZ := Hid.mk' hbz
                clear hb5 hb6 hbw hbz hr1 hr2
                cases bb with
                | false =>
                  go_wp2
                  go_ret3
                  exact ans_no (by rw [hqz.out, if_neg (of_decide_eq_false HBB.out)]) _ _ rfl HBZ.out
                | true =>
                  go_wp2
                  go_ret3
                  exact ans_yes (by rw [hqz.out, if_pos (of_decide_eq_true HBB.out)]) _ rfl HO6.out HBZ.out
              · have hr : Hid (ans = none) := by
                  show _ = _
                  rw [HGX.out]
                  simp only
                  rw [if_pos (by simpa using hq)]
                have hqI : ((q.length : Int) != (z : Int)) = true := by
                  simp
                  omega
                clear hq
                go_wp2
                go_ret3
                exact ans_no hr.out _ _ rfl hB.out
            · have b2 : ¬ (q.length : Int) < (z : Int) := by omega
              by_cases hq : q.length = z
              · have hqz : Hid (ans = if blocks ep q = (ls.drop at_).take k then some (q, k) else none) := by
                  show _ = _
                  rw [HGX.out]
                  simp only
                  rw [if_neg (by simp [hq])]
                obtain ⟨al, hal⟩ : ∃ x, (some ⟨g, o, none⟩ : Option Addr) = x := ⟨_, rfl⟩
                rw [hal] at HRW ⊢
                obtain ⟨bb, hbb⟩ : ∃ c, decide (blocks ep q = (ls.drop at_).take k) = c := ⟨_, rfl⟩
                obtain ⟨s, hs⟩ : ∃ s, at_ + k = s := ⟨_, rfl⟩
                have hsum : (at_ : Int) + (k : Int) = (s : Int) := by omega
                have hsle : s ≤ 140737488351232 := by omega
                have hwrap : IntKind.i64.wrap ((at_ : Int) + (k : Int)) = (s : Int) := by rw [hsum]; exact (wrapS s hsle).1
                have hsl : ∀ wx, (Instr.slice 23 (.slice al n cap) (some (.int .i64 (at_ : Int))) (some (.int .i64 (s : Int))) none).run Try.prog wx = .ok (.slice (further al cap at_) k (cap - at_)) wx := fun wx => by
                  have := slice_midT al n cap at_ s (by omega) (by omega) wx
                  rw [show s - at_ = k by omega] at this
                  exact this
                have hpart : ∀ wx, Below w.heap.size w wx → Nm.Rd wx (.slice (further al cap at_) k (cap - at_)) ((ls.drop at_).take k) := fun wx hx => by
                  have := rd_part HN.out (HRW.out.below hx) at_ (at_ + k) (by omega) (by omega)
                  rw [Nat.add_sub_cancel_left] at this
                  exact this
                obtain ⟨ap, hap⟩ : ∃ x, further al cap at_ = x := ⟨_, rfl⟩
                obtain ⟨cpp, hcpp⟩ : ∃ x, cap - at_ = x := ⟨_, rfl⟩
                simp only [hap, hcpp] at hsl hpart
                obtain ⟨PB, hPB⟩ : ∃ x, (ls.drop at_).take k = x := ⟨_, rfl⟩
                obtain ⟨BB, hBB⟩ : ∃ x, blocks ep q = x := ⟨_, rfl⟩
                obtain ⟨nb, hnb⟩ : ∃ x, BB.length = x := ⟨_, rfl⟩
                have CB : Hid (∀ wx, Below wr.heap.size wr wx → Calls Try.prog 33 #[.int .u32 (ep : Int), .slice aq q.length cq] wx fun e w' => ∃ ax cx, e = .returned (.slice ax nb cx) ∧ Nm.Rd w' (.slice ax nb cx) BB ∧ Nm.Rd w' (.slice ap k cpp) PB ∧ Below wr.heap.size wr w') := fun wx hx => by
                  refine (refblocks ep (.slice aq q.length cq) q wx hep (hO.out.below hx).rd hO.out.nz (by omega)).mono ?_
                  rintro e w' ⟨x, rfl, ho, hb⟩
                  have hbw : Below wr.heap.size wr w' := hx.trans (hb.mono hx.size)
                  have hrd := Nm.rd_own ho
                  obtain ⟨ax, cx, e1, _⟩ := id hrd
                  rw [hBB] at hrd e1
                  subst e1
                  rw [hnb] at hrd ⊢
                  have hp := hpart w' (hB.out.trans (hbw.mono hB.out.size))
                  rw [hPB] at hp
                  exact ⟨ax, cx, rfl, hrd, hp, hbw⟩
                have CS : Hid (∀ wx v1 v2, Below wr.heap.size wr wx → Nm.Rd wx v1 BB → Nm.Rd wx v2 PB → Calls Try.prog 21 #[v1, v2] wx fun e w' => e = .returned (.bool bb) ∧ Below wr.heap.size wr w') := fun wx v1 v2 hx h1 h2 => by
                  refine (Nm.same_l v1 v2 BB PB wx h1 h2).mono ?_
                  rintro e w' ⟨rfl, m, rfl⟩
                  rw [← hbb, hBB, hPB]
                  exact ⟨rfl, below_dn hx m⟩
                have HBB := Hid.mk' hbb
                have hqI : ((q.length : Int) != (z : Int)) = false := by simp [hq]
                have hakI : (at_ : Int) + (k : Int) ≤ (n : Int) := by omega
                have hs0 : (s : Int) ≤ 140737488351232 := by omega
                have hs1 : (at_ : Int) ≤ (s : Int) := by omega
                have hs2 : (s : Int) ≤ (cap : Int) := by omega
                have hs3 : (s : Int) ≤ (n : Int) := by omega
                have hw2 := (wrapS s hsle).1
                have hw3 := (wrapS s hsle).2
                clear hbb hpart hap hcpp hPB hBB hnb hq hs hal
                go_wp2_with fail
                go_region_held3 (fun w' => Below wr.heap.size wr w') (first | assumption | exact Below.refl _ _ | exact (Below.refl _ _).drew) (first | (go_at_call 33; with_reducible refine (CB.out _ ?hb).mono ?_; (case hb => (first | exact Below.refl _ _ | exact (Below.refl _ _).drew | fail)); rintro e w5 ⟨ax, cx, rfl, hr1, hr2, hb5⟩) | (go_at_call 21; with_reducible refine (CS.out _ _ _ hb5 ?h1 ?h2).mono ?_; (case h1 => (first | exact hr1 | fail)); (case h2 => (first | exact hr2 | fail)); rintro e w6 ⟨rfl, hb6⟩) | fail)
                have hbw : Below wr.heap.size wr w6 := hb6
                have hbz : Below w.heap.size w w6 := hB.out.trans (hbw.mono hB.out.size)
                have HO6 := Hid.mk' (hO.out.below hbw)
                have HBZ := Hid.mk' hbz
                clear hb5 hb6 hbw hbz hr1 hr2
                cases bb with
                | false =>
                  go_wp2
                  go_ret3
                  exact ans_no (by rw [hqz.out, if_neg (of_decide_eq_false HBB.out)]) _ _ rfl HBZ.out
                | true =>
                  go_wp2
                  go_ret3
                  exact ans_yes (by rw [hqz.out, if_pos (of_decide_eq_true HBB.out)]) _ rfl HO6.out HBZ.out
              · have hr : Hid (ans = none) := by
                  show _ = _
                  rw [HGX.out]
                  simp only
                  rw [if_pos (by simpa using hq)]
                have hqI : ((q.length : Int) != (z : Int)) = true := by
                  simp
                  omega
                clear hq
                go_wp2
                go_ret3
                exact ans_no hr.out _ _ rfl hB.out
          · have b1 : ¬ (i : Int) < 3 := by omega
            by_cases hq : q.length = z
            · have hqz : Hid (ans = if blocks ep q = (ls.drop at_).take k then some (q, k) else none) := by
                show _ = _
                rw [HGX.out]
                simp only
                rw [if_neg (by simp [hq])]
              obtain ⟨al, hal⟩ : ∃ x, (some ⟨g, o, none⟩ : Option Addr) = x := ⟨_, rfl⟩
              rw [hal] at HRW ⊢
              obtain ⟨bb, hbb⟩ : ∃ c, decide (blocks ep q = (ls.drop at_).take k) = c := ⟨_, rfl⟩
              obtain ⟨s, hs⟩ : ∃ s, at_ + k = s := ⟨_, rfl⟩
              have hsum : (at_ : Int) + (k : Int) = (s : Int) := by omega
              have hsle : s ≤ 140737488351232 := by omega
              have hwrap : IntKind.i64.wrap ((at_ : Int) + (k : Int)) = (s : Int) := by rw [hsum]; exact (wrapS s hsle).1
              have hsl : ∀ wx, (Instr.slice 23 (.slice al n cap) (some (.int .i64 (at_ : Int))) (some (.int .i64 (s : Int))) none).run Try.prog wx = .ok (.slice (further al cap at_) k (cap - at_)) wx := fun wx => by
                have := slice_midT al n cap at_ s (by omega) (by omega) wx
                rw [show s - at_ = k by omega] at this
                exact this
              have hpart : ∀ wx, Below w.heap.size w wx → Nm.Rd wx (.slice (further al cap at_) k (cap - at_)) ((ls.drop at_).take k) := fun wx hx => by
                have := rd_part HN.out (HRW.out.below hx) at_ (at_ + k) (by omega) (by omega)
                rw [Nat.add_sub_cancel_left] at this
                exact this
              obtain ⟨ap, hap⟩ : ∃ x, further al cap at_ = x := ⟨_, rfl⟩
              obtain ⟨cpp, hcpp⟩ : ∃ x, cap - at_ = x := ⟨_, rfl⟩
              simp only [hap, hcpp] at hsl hpart
              obtain ⟨PB, hPB⟩ : ∃ x, (ls.drop at_).take k = x := ⟨_, rfl⟩
              obtain ⟨BB, hBB⟩ : ∃ x, blocks ep q = x := ⟨_, rfl⟩
              obtain ⟨nb, hnb⟩ : ∃ x, BB.length = x := ⟨_, rfl⟩
              have CB : Hid (∀ wx, Below wr.heap.size wr wx → Calls Try.prog 33 #[.int .u32 (ep : Int), .slice aq q.length cq] wx fun e w' => ∃ ax cx, e = .returned (.slice ax nb cx) ∧ Nm.Rd w' (.slice ax nb cx) BB ∧ Nm.Rd w' (.slice ap k cpp) PB ∧ Below wr.heap.size wr w') := fun wx hx => by
                refine (refblocks ep (.slice aq q.length cq) q wx hep (hO.out.below hx).rd hO.out.nz (by omega)).mono ?_
                rintro e w' ⟨x, rfl, ho, hb⟩
                have hbw : Below wr.heap.size wr w' := hx.trans (hb.mono hx.size)
                have hrd := Nm.rd_own ho
                obtain ⟨ax, cx, e1, _⟩ := id hrd
                rw [hBB] at hrd e1
                subst e1
                rw [hnb] at hrd ⊢
                have hp := hpart w' (hB.out.trans (hbw.mono hB.out.size))
                rw [hPB] at hp
                exact ⟨ax, cx, rfl, hrd, hp, hbw⟩
              have CS : Hid (∀ wx v1 v2, Below wr.heap.size wr wx → Nm.Rd wx v1 BB → Nm.Rd wx v2 PB → Calls Try.prog 21 #[v1, v2] wx fun e w' => e = .returned (.bool bb) ∧ Below wr.heap.size wr w') := fun wx v1 v2 hx h1 h2 => by
                refine (Nm.same_l v1 v2 BB PB wx h1 h2).mono ?_
                rintro e w' ⟨rfl, m, rfl⟩
                rw [← hbb, hBB, hPB]
                exact ⟨rfl, below_dn hx m⟩
              have HBB := Hid.mk' hbb
              have hqI : ((q.length : Int) != (z : Int)) = false := by simp [hq]
              have hakI : (at_ : Int) + (k : Int) ≤ (n : Int) := by omega
              have hs0 : (s : Int) ≤ 140737488351232 := by omega
              have hs1 : (at_ : Int) ≤ (s : Int) := by omega
              have hs2 : (s : Int) ≤ (cap : Int) := by omega
              have hs3 : (s : Int) ≤ (n : Int) := by omega
              have hw2 := (wrapS s hsle).1
              have hw3 := (wrapS s hsle).2
              clear hbb hpart hap hcpp hPB hBB hnb hq hs hal
              go_wp2_with fail
              go_region_held3 (fun w' => Below wr.heap.size wr w') (first | assumption | exact Below.refl _ _ | exact (Below.refl _ _).drew) (first | (go_at_call 33; with_reducible refine (CB.out _ ?hb).mono ?_; (case hb => (first | exact Below.refl _ _ | exact (Below.refl _ _).drew | fail)); rintro e w5 ⟨ax, cx, rfl, hr1, hr2, hb5⟩) | (go_at_call 21; with_reducible refine (CS.out _ _ _ hb5 ?h1 ?h2).mono ?_; (case h1 => (first | exact hr1 | fail)); (case h2 => (first | exact hr2 | fail)); rintro e w6 ⟨rfl, hb6⟩) | fail)
              have hbw : Below wr.heap.size wr w6 := hb6
              have hbz : Below w.heap.size w w6 := hB.out.trans (hbw.mono hB.out.size)
              have HO6 := Hid.mk' (hO.out.below hbw)
              have HBZ := Hid.mk' hbz
              clear hb5 hb6 hbw hbz hr1 hr2
              cases bb with
              | false =>
                go_wp2
                go_ret3
                exact ans_no (by rw [hqz.out, if_neg (of_decide_eq_false HBB.out)]) _ _ rfl HBZ.out
              | true =>
                go_wp2
                go_ret3
                exact ans_yes (by rw [hqz.out, if_pos (of_decide_eq_true HBB.out)]) _ rfl HO6.out HBZ.out
            · have hr : Hid (ans = none) := by
                show _ = _
                rw [HGX.out]
                simp only
                rw [if_pos (by simpa using hq)]
              have hqI : ((q.length : Int) != (z : Int)) = true := by
                simp
                omega
              clear hq
              go_wp2
              go_ret3
              exact ans_no hr.out _ _ rfl hB.out
  · have h1I : (n : Int) ≤ (at_ : Int) := by omega
    have hr : Hid (ans = none) := by
      show _ = _
      rw [← HA.out, List.drop_eq_nil_of_le (by have := HN.out; omega)]
      exact one_nil ep
    go_enter Try.func24, Try.ntmps24
    go_wp2
    go_ret3
    exact ans_no hr.out _ _ rfl (Below.refl _ _)
end Rc
end Go.Proofs.Ytjnodkjeiogloaa
