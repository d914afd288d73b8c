import Derived.Test.YthabnombfbehkaaQvM
import Derived.Test.YthabnombfbehkaaSwpG
/- Slots that are taken, used and hung, one by one: plain facts; what the program must answer where a tree and garbage share an arena; above. -/
namespace Go.Proofs.Ythabnombfbehkaa
set_option linter.ambiguousOpen false
open Go.RowKit
namespace Sw
open An Rg Ft Lv
set_option linter.unusedSimpArgs false
set_option linter.unusedVariables false

/-- A slot that is used, with its birth number. -/
def slU (k : Nat) : Slt := ⟨true, false, -1, -1, -1, { ses0 with birth := (k : Int) + 1 }, slt0.tx⟩

theorem at_set {S : List Slt} (hl : S.length = 32) {f : Nat} (hf : f < 32) (x : Slt) (j : Nat) : Tr.at' (S.set f x) j = if j = f then x else Tr.at' S j := by
  unfold Tr.at'
  rw [Int.toNat_natCast, get_set hl x f j hf]

/-- One more slot is used. -/
theorem hg_grow {S : List Slt} {tl : Int} {up : List Int} (h : Tr.Hg S tl up.length (Tr.kidsU up (-1) (-1)) (fun j => Tr.kidsU up j (-1))) (hu : Tr.Ups up) (hn : up.length < 32) :
    Tr.Hg (S.set up.length (slU up.length)) tl (up.length + 1) (Tr.kidsU up (-1) (-1)) (fun j => Tr.kidsU up j (-1)) := by
  have hat := fun j : Nat => at_set h.len hn (slU up.length) j
  have hold : ∀ j : Nat, j < up.length → Tr.at' (S.set up.length (slU up.length)) j = Tr.at' S j := fun j hj => by
    rw [hat j, if_neg (by omega)]
  have hnew : Tr.at' (S.set up.length (slU up.length)) up.length = slU up.length := by rw [hat, if_pos rfl]
  have hring : ∀ r : List Nat, Ring S r → (∀ x ∈ r, x < up.length) → Ring (S.set up.length (slU up.length)) r := fun r hr ho => ring_on hr (fun x hx => ⟨congrArg Slt.next (hold x (ho x hx)), congrArg Slt.prev (hold x (ho x hx))⟩)
  have hk0 : Tr.kidsU up (up.length : Nat) (-1) = [] := Tr.kidsU_none hu (by omega) (-1)
  refine ⟨by rw [List.length_set]; exact h.len, by omega, fun i hi => ?_, fun i hi => ?_, hring _ h.ring0 (fun x hx => (Tr.mem_kidsU.1 hx).1), h.last, fun j hj => ?_, fun j hj => ?_, fun i hi => ?_, fun j hj i hi => ?_⟩
  · by_cases e : i = up.length
    · rw [e, hnew]; rfl
    · rw [hold i (by omega)]; exact h.used i (by omega)
  · by_cases e : i = up.length
    · rw [e, hnew]; rfl
    · rw [hold i (by omega)]; exact h.birth i (by omega)
  · by_cases e : j = up.length
    · rw [e, hk0]; exact Ring.nil _
    · exact hring _ (h.ring j (by omega)) (fun x hx => (Tr.mem_kidsU.1 hx).1)
  · by_cases e : j = up.length
    · rw [e, hnew, hk0]; rfl
    · rw [hold j (by omega)]; exact h.kids j (by omega)
  · have := h.par0 i hi
    rw [hold i this.1]
    exact ⟨by omega, this.2⟩
  · have hi' := (Tr.mem_kidsU.1 hi).1
    by_cases e : j = up.length
    · rw [e, hk0] at hi
      simp at hi
    · have := h.par j (by omega) i hi
      rw [hold i hi']
      exact ⟨by omega, this.2⟩

/-- And hung. -/
theorem hung_step {S : List Slt} {tl : Int} {up : List Int} (h : Tr.Hg S tl up.length (Tr.kidsU up (-1) (-1)) (fun j => Tr.kidsU up j (-1))) (hu : Tr.Ups up) (hn : up.length < 32) {p : Int} (hp : -1 ≤ p ∧ p < up.length) :
    ∃ S' tl', Tr.addT (S.set up.length (slU up.length)) tl up.length (Tr.linkS p) (Tr.linkB p) = ⟨0, -1, S', tl'⟩ ∧ Tr.Hg S' tl' (up ++ [p]).length (Tr.kidsU (up ++ [p]) (-1) (-1)) (fun j => Tr.kidsU (up ++ [p]) j (-1)) := by
  obtain ⟨S', tl', e1, e2⟩ := Tr.hang_add (hg_grow h hu hn) hu (by omega) hp
  refine ⟨S', tl', e1, ?_⟩
  rw [List.length_append, List.length_singleton]
  exact e2

/-- Before any. -/
theorem hung_start : Tr.Hg arn0.sl (-1) 0 (Tr.kidsU [] (-1) (-1)) (fun j => Tr.kidsU [] j (-1)) :=
  ⟨rfl, by omega, fun i hi => by omega, fun i hi => by omega, Ring.nil _, rfl, fun j hj => by omega, fun j hj => by omega, fun i hi => by simp [Tr.kidsU] at hi, fun j hj => by omega⟩

/-! ### above -/

/-- Ints that lie there. -/
def RdU (w : World) (v : Value) (l : List Int) : Prop :=
  ∃ a cap, v = .slice a l.length cap ∧ l.length ≤ cap ∧ cap ≤ maxLen ∧ (0 < l.length → ∃ g o, a = some ⟨g, o, none⟩ ∧ g < w.heap.size ∧ ∀ k i, l[k]? = some i → w.cell? ⟨g, o + k, none⟩ = some (nu i))

theorem own_rdU {w : World} {base n : Nat} {v : Value} {l : List Int} (h : w.ownsRow base 3 1 v n (l.map nu)) : RdU w v l := by
  have hn := h.1
  rw [List.length_map, Nat.mul_one] at hn
  subst hn
  obtain ⟨a, cap, rfl, h1, h2, h3⟩ := Nm.own_shape h
  refine ⟨a, cap, rfl, h1, h2, fun h0 => ?_⟩
  obtain ⟨g, rfl⟩ := h3 h0
  refine ⟨g, 0, rfl, (h.lt g rfl).2, fun k i hi => ?_⟩
  have := h.cellAt (g := g) (cap := cap) k (by have := (List.getElem?_eq_some_iff.1 hi).1; omega)
  rw [Nat.zero_add, this, List.getElem?_map, hi]
  rfl

theorem RdU.below {w w' : World} {v : Value} {l : List Int} (h : RdU w v l) (hb : Below w.heap.size w w') : RdU w' v l := by
  obtain ⟨a, cap, h1, h2, h3, h4⟩ := h
  refine ⟨a, cap, h1, h2, h3, fun h0 => ?_⟩
  obtain ⟨g, o, e1, e2, e3⟩ := h4 h0
  exact ⟨g, o, e1, Nat.lt_of_lt_of_le e2 hb.size, fun k i hi => (hb.cell (p := ⟨g, o + k, none⟩) e2).trans (e3 k i hi)⟩

set_option maxRecDepth 100000 in
set_option maxHeartbeats 2000000 in
theorem above_any (v : Value) (up : List Int) (i k : Int) (w : World) (h : RdU w v up) (hu : Tr.Ups up) (h32 : up.length ≤ 32) (hk : -1 ≤ k ∧ k < up.length) :
    Calls Try.prog 10 #[v, nu i, nu k] w fun e w' => e = .returned (.bool (ancB up i (up.length + 1) k)) ∧ w' = w := by
  obtain ⟨r, hr⟩ : ∃ r, ancB up i (up.length + 1) k = r := ⟨_, rfl⟩
  rw [hr]
  have HR := Hid.mk' hr
  obtain ⟨a, cap, rfl, h1, h2, h3⟩ := h
  obtain ⟨n, hn⟩ : ∃ n, up.length = n := ⟨_, rfl⟩
  rw [hn] at h1 h32 ⊢
  unfold maxLen at h2
  have HN := Hid.mk' hn
  have H3 := Hid.mk' h3
  have HU := Hid.mk' hu
  have hcI : (cap : Int) ≤ 9223372036854775807 := by omega
  have HK0 : Hid (-1 ≤ k ∧ k < n ∧ ancB up i (n + 1 - 0) k = r) := ⟨hk.1, by omega, by rw [← hn]; exact hr⟩
  clear hr hn h3 hu hk
  go_enter Try.func10, Try.ntmps10
  go_wp2
  go_loopw [2, 7] (fun kv jv wr => ∃ (j : Nat) (k : Int), j ≤ n + 1 ∧ jv = nun j ∧ kv = nu k ∧ Hid (wr = w ∧ -1 ≤ k ∧ k < n ∧ ancB up i (n + 1 - j) k = r)) (fun _ jv _ => n + 1 - (intOf jv).toNat)
  case atStart => exact ⟨0, k, by omega, rfl, rfl, rfl, HK0.out⟩
  case round =>
    clear HK0
    obtain ⟨j, k, hj, rfl, rfl, HQ⟩ := hrel
    obtain ⟨hw, hk1, hk2, hq⟩ := HQ.out
    subst hw
    clear HQ
    by_cases hjn : j ≤ n
    · have hjI : (j : Int) ≤ (n : Int) := by omega
      obtain ⟨f, hf⟩ : ∃ f, n + 1 - j = f + 1 := ⟨n - j, by omega⟩
      rw [hf, ancB] at hq
      by_cases hneg : k < 0
      · rw [if_pos (.inl hneg)] at hq
        have HE := Hid.mk' hq
        have hd : decide (k < 0) = true := decide_eq_true hneg
        clear hq
        go_wp2
        go_ret
        refine ⟨?_, rfl⟩
        rw [← HE.out]
        congr 2
      · by_cases he : k = i
        · rw [if_pos (.inr he)] at hq
          have HE := Hid.mk' hq
          have hb : (k == i) = true := by simpa using he
          clear hq
          go_wp2
          go_ret
          exact ⟨by rw [← HE.out, decide_eq_true he]; simp [hb], rfl⟩
        · rw [if_neg (fun q => q.elim hneg he)] at hq
          have hb : (k == i) = false := by simpa using he
          obtain ⟨m, rfl⟩ : ∃ m : Nat, k = (m : Int) := ⟨k.toNat, by omega⟩
          have hm : m < n := by omega
          obtain ⟨g, o, rfl, _, hc⟩ := H3.out (by rw [HN.out]; omega)
          obtain ⟨x, hx⟩ : ∃ x, up[m]? = some x := ⟨_, List.getElem?_eq_getElem (by rw [HN.out]; exact hm)⟩
          have hcx := hc m x hx
          have hxd : up.getD m 0 = x := by rw [List.getD_eq_getElem?_getD, hx]; rfl
          rw [Int.toNat_natCast, hxd] at hq
          have hub := HU.out m (by rw [HN.out]; exact hm)
          rw [hxd] at hub
          have hf2 : n + 1 - (j + 1) = f := by omega
          rw [← hf2] at hq
          have HQ2 : Hid (wr = wr ∧ -1 ≤ x ∧ x < n ∧ ancB up i (n + 1 - (j + 1)) x = r) := ⟨rfl, hub.1, by omega, hq⟩
          have hmI : (m : Int) < (n : Int) := by omega
          have hm0 : (0 : Int) ≤ (m : Int) := by omega
          clear hq hx hxd hub hc hf hf2
          go_wp2
          go_roundw
          case rel => exact ⟨j + 1, x, Nat.succ_le_succ hjn, by go_num, rfl, ⟨by simp, HQ2.out.2⟩⟩
          case measure => simp [intOf]; omega
    · have hjI : ¬ (j : Int) ≤ (n : Int) := by omega
      obtain rfl : j = n + 1 := by omega
      rw [Nat.sub_self, ancB] at hq
      have HE := Hid.mk' hq
      clear hq
      go_wp2
      go_ret
      exact ⟨by rw [← HE.out]; rfl, rfl⟩
end Sw
end Go.Proofs.Ythabnombfbehkaa
