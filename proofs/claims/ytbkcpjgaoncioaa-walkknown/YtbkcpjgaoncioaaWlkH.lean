/- Lines in plain words; the law's works. -/
import Derived.Test.YtbkcpjgaoncioaaWlkG
namespace Go.Proofs.Ytbkcpjgaoncioaa
set_option linter.ambiguousOpen false
open Go.RowKit
namespace Wk
open An Ft Lv
set_option linter.unusedSimpArgs false
set_option linter.unusedVariables false

theorem get_setW {S : List Slt} (hl : S.length = 32) (i j : Nat) (x : Slt) (hi : i < 32) : (S.set i x).getD j bare = if i = j then x else S.getD j bare := by
  rw [List.getD_eq_getElem?_getD, List.getElem?_set, List.getD_eq_getElem?_getD]
  by_cases h : i = j
  · rw [if_pos h, if_pos h, if_pos (by omega)]
    rfl
  · rw [if_neg h, if_neg h]

theorem getD_lt {L : List Nat} (hlt : ∀ x ∈ L, x < 32) (k : Nat) : L.getD k 0 < 32 := by
  rw [List.getD_eq_getElem?_getD]
  by_cases h : k < L.length
  · rw [List.getElem?_eq_getElem h]
    exact hlt _ (List.getElem_mem h)
  · rw [List.getElem?_eq_none (by omega)]
    decide

theorem getD_inj {L : List Nat} (hnd : L.Nodup) {i j : Nat} (hi : i < L.length) (hj : j < L.length) (e : L.getD i 0 = L.getD j 0) : i = j := by
  rw [List.getD_eq_getElem?_getD, List.getD_eq_getElem?_getD, List.getElem?_eq_getElem hi, List.getElem?_eq_getElem hj] at e
  have e' : L[i] = L[j] := e
  rcases Nat.lt_trichotomy i j with q | q | q
  · exact absurd e' (List.pairwise_iff_getElem.1 hnd i j hi hj q)
  · exact q
  · exact absurd e'.symm (List.pairwise_iff_getElem.1 hnd j i hj hi q)

theorem lnS_at {L : List Nat} (hnd : L.Nodup) (hlt : ∀ x ∈ L, x < 32) : ∀ n, n ≤ L.length → ∀ k, k < n → atW (lnS L n) ((L.getD k 0 : Nat) : Int) = slotL (L.getD k 0) k (upS L k) (upB k)
  | 0, _, k, hk => by omega
  | n + 1, hn, k, hk => by
    unfold atW
    rw [Int.toNat_natCast, lnS, get_setW (lnS_len L n) _ _ _ (getD_lt hlt n)]
    by_cases e : k = n
    · subst e
      rw [if_pos rfl]
    · rw [if_neg (fun q => e (getD_inj hnd (by omega) (by omega) q).symm)]
      have := lnS_at hnd hlt n (by omega) k (by omega)
      unfold atW at this
      rwa [Int.toNat_natCast] at this

/-- A line, one slot of which may be turned. -/
theorem lin_turn {L : List Nat} (hnd : L.Nodup) (hlt : ∀ x ∈ L, x < 32) (t : Nat) (ht : t < 32) (y : Slt) (yes : Bool) (hy : ∀ k, k < L.length → L.getD k 0 = t → ((yes = false → y = slotL (L.getD k 0) k (upS L k) (upB k)) ∧ (yes = true → ¬ (y.used = true ∧ y.dead = false ∧ y.s.birth = 10 + (k : Int))))) :
    Lin ((lnS L L.length).set t y) (fun k => L.getD k 0) L.length (fun k => !(yes && decide (L.getD k 0 = t))) := by
  have hat : ∀ k, k < L.length → atW ((lnS L L.length).set t y) ((L.getD k 0 : Nat) : Int) = if t = L.getD k 0 then y else slotL (L.getD k 0) k (upS L k) (upB k) := fun k hk => by
    have h1 := lnS_at hnd hlt L.length (Nat.le_refl _) k hk
    unfold atW at h1 ⊢
    rw [Int.toNat_natCast] at h1 ⊢
    rw [get_setW (lnS_len L L.length) _ _ _ ht]
    split
    · rfl
    · exact h1
  have hok : ∀ k, k < L.length → (!(yes && decide (L.getD k 0 = t))) = true → atW ((lnS L L.length).set t y) ((L.getD k 0 : Nat) : Int) = slotL (L.getD k 0) k (upS L k) (upB k) := fun k hk ha => by
    rw [hat k hk]
    split
    · next e =>
      cases yes with
      | true => simp [e] at ha
      | false => exact (hy k hk e.symm).1 rfl
    · rfl
  refine ⟨fun k hk => ?_, fun h0 ha => ?_, fun k hk ha => ?_⟩
  · constructor
    · intro hh
      unfold hold at hh
      cases hq : (!(yes && decide (L.getD k 0 = t))) with
      | true => rfl
      | false =>
        exfalso
        have hyt : yes = true ∧ L.getD k 0 = t := by simpa using hq
        rw [hat k hk, if_pos hyt.2.symm] at hh
        exact (hy k hk hyt.2).2 hyt.1 ⟨hh.2.2.1, hh.2.2.2.1, hh.2.2.2.2⟩
    · intro ha
      have e := hok k hk ha
      have hl := getD_lt hlt k
      unfold hold
      rw [e]
      refine ⟨⟨by omega, by omega⟩, by omega, rfl, rfl, rfl⟩
  · rw [hok 0 h0 ha]
    rfl
  · rw [hok (k + 1) hk ha]
    refine ⟨?_, ?_⟩
    · show upS L (k + 1) = _
      unfold upS
      rw [if_neg (by omega), Nat.add_sub_cancel]
    · show upB (k + 1) = _
      unfold upB
      rw [if_neg (by omega)]
      omega

theorem works_said : livB (lnS [4, 2] 2) 2 11 = true ∧ livN (lnS [4, 2] 2) 2 11 = 1 := by decide +kernel

set_option maxRecDepth 100000 in
set_option maxHeartbeats 1000000 in
theorem works_any {Rep : World → Nat → (Nat → Prop) → Arn → Prop} (H : KeepC Rep) (CN : NewC Rep) (CP : PutC Rep) (C : WalkC Rep) (w : World) :
    Calls Try.prog 17 #[] w fun e w' => e = .returned (.bool true) ∧ Below w.heap.size w w' := by
  have hB : Below w.heap.size w (w.alloc (.cells #[nu 4, nu 2] 3)) := (Below.refl _ _).alloc (Nat.le_refl _) _
  have hR : RdN (w.alloc (.cells #[nu 4, nu 2] 3)) (.slice (some ⟨w.heap.size, 0, none⟩) 2 2) [4, 2] := own_rdN (base := w.heap.size) (n := 2) (by
    have := World.ownsRow_lit (size := 1) (e := 3) w #[nu 4, nu 2] 2 (base := w.heap.size) (Nat.le_refl _) (by unfold maxLen; omega) (by simp)
    exact this)
  have c1 : Hid (Calls Try.prog 16 #[.slice (some ⟨w.heap.size, 0, none⟩) 2 2] (w.alloc (.cells #[nu 4, nu 2] 3)) fun e w' => ∃ p, e = .returned (ptr p) ∧ Hid (∃ F, Rep w' p F ⟨lnS [4, 2] 2, arn0.fr, 2⟩ ∧ Below w.heap.size w w')) := by
    refine (line_any H CN CP _ [4, 2] _ hR (by decide) (by decide)).mono ?_
    rintro e w' ⟨p, F, rfl, h1, h2, h3⟩
    exact ⟨p, rfl, F, h1, hB.trans (h3.mono hB.size)⟩
  have c2 : Hid (∀ wx p, (∃ F, Rep wx p F ⟨lnS [4, 2] 2, arn0.fr, 2⟩ ∧ Below w.heap.size w wx) → Calls Try.prog 9 #[ptr p, lkU 2 11] wx fun e w' => e = .returned (.tuple #[.bool true, nu 1]) ∧ Hid (Below w.heap.size w w')) := fun wx p h => by
    obtain ⟨F, h1, h2⟩ := h
    have := C.lives wx p F _ 2 11 h1 ⟨lnS_len _ _, good0.nd, good0.lt⟩ ⟨by omega, by omega⟩ ⟨by omega, by omega⟩
    rw [works_said.1, works_said.2] at this
    refine this.mono ?_
    rintro e w' ⟨rfl, hb⟩
    exact ⟨rfl, h2.trans (hb.mono h2.size)⟩
  clear hB hR H CN CP C
  go_enter Try.func17, Try.ntmps17
  go_wp2_with fail
  refine c1.out.mono ?_
  rintro e w1 ⟨p, rfl, hQ1⟩
  go_wp2_with fail
  refine (c2.out _ _ hQ1.out).mono ?_
  rintro e w2 ⟨rfl, hb2⟩
  go_wp2
  go_ret
  exact ⟨rfl, hb2.out⟩
end Wk
end Go.Proofs.Ytbkcpjgaoncioaa
