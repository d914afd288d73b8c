/- Sev, RefV, AppS, AppR, RefNm, RefTk, ListsY, in one text. -/
import Derived.WalkKit
import Derived.Test.YthdibodmnpcekaaGreatDoorRowM
import Derived.Test.YthdibodmnpcekaaGreatDoorOwn
import Derived.Laws.BitsAllLaws
import Derived.Laws.Bits64b
import Derived.Lib.AppendStr
import Derived.Maps.AppendAt
import Derived.Deep.RegionHeld3
import Derived.ChangeKeysEq
/- Numbers in sevens, as lists of bytes, there and back. No program is named here. -/
namespace Go.Proofs.YthdibodmnpcekaaGreatDoor
open Go.RowKit
namespace Pk
set_option linter.unusedVariables false

/-- A number in sevens. -/
def sev (v : Nat) : List UInt8 := if h : v < 128 then [UInt8.ofNat v] else UInt8.ofNat (v % 128 + 128) :: sev (v / 128)
termination_by v
decreasing_by omega

theorem sev_lt (v : Nat) (h : v < 128) : sev v = [UInt8.ofNat v] := by rw [sev, dif_pos h]

theorem sev_ge (v : Nat) (h : 128 ≤ v) : sev v = UInt8.ofNat (v % 128 + 128) :: sev (v / 128) := by rw [sev, dif_neg (by omega)]

/-- The number at the beginning: its value, how many bytes it has, the error's number. The byte i of it comes next, v is what the bytes ahead of it tell. -/
def numG : Nat → Nat → Nat → List UInt8 → Nat × Nat × Nat
  | 0, i, v, b => (0, 0, 4)
  | f + 1, i, v, [] => (0, 0, 2)
  | f + 1, i, v, x :: xs =>
    if (i = 9 ∧ 1 < x.toNat) ∨ (0 < i ∧ x.toNat = 0) then (0, 0, 4)
    else if x.toNat < 128 then (v + x.toNat * 128 ^ i, i + 1, 0)
    else numG f (i + 1) (v + (x.toNat - 128) * 128 ^ i) xs

def num (b : List UInt8) : Nat × Nat × Nat := numG 10 0 0 b

theorem ofNat_toNat (n : Nat) (h : n < 256) : (UInt8.ofNat n).toNat = n := by
  rw [UInt8.toNat_ofNat']
  omega

theorem pow7 (i : Nat) : 128 ^ (i + 1) = 128 ^ i * 128 := Nat.pow_succ ..

/-- What was put is taken again. -/
theorem numG_sev (f i v u : Nat) (r : List UInt8) (hf : f + i = 10) (hf0 : 0 < f) (hv : v < 128 ^ f) (hi : 0 < i → 0 < v) (h64 : f = 1 → v ≤ 1) (h9 : v * 128 ^ i < 18446744073709551616) : numG f i u (sev v ++ r) = (u + v * 128 ^ i, i + (sev v).length, 0) := by
  induction f generalizing i v u with
  | zero => omega
  | succ f ih =>
    by_cases h : v < 128
    · rw [sev_lt v h, List.singleton_append, numG, ofNat_toNat v (by omega), if_neg, if_pos h]
      · rfl
      · intro hc
        rcases hc with ⟨h1, h2⟩ | ⟨h1, h2⟩
        · have := h64 (by omega); omega
        · have := hi h1; omega
    · have hf1 : 0 < f := by
        rcases Nat.eq_zero_or_pos f with rfl | h0
        · have := h64 rfl; omega
        · exact h0
      rw [sev_ge v (by omega), List.cons_append, numG, ofNat_toNat _ (by omega), if_neg (by omega), if_neg (by omega), show v % 128 + 128 - 128 = v % 128 by omega]
      have hd : v / 128 * 128 ^ (i + 1) + v % 128 * 128 ^ i = v * 128 ^ i := by
        rw [pow7, ← Nat.mul_assoc, Nat.mul_right_comm, ← Nat.add_mul]
        congr 1
        omega
      have hq : v / 128 < 128 ^ f := by
        rw [Nat.div_lt_iff_lt_mul (by decide)]
        rw [pow7] at hv
        exact hv
      rw [ih (i + 1) (v / 128) _ (by omega) hf1 hq (fun _ => by omega) (fun e => ?_) (by omega)]
      · rw [List.length_cons]
        congr 1
        · omega
        · congr 1
          omega
      · -- the tenth byte
        have hi9 : i + 1 = 9 := by omega
        rw [hi9] at hd
        have hp : (128 : Nat) ^ 9 = 9223372036854775808 := by decide
        rw [hp] at hd
        omega

theorem num_sev (v : Nat) (r : List UInt8) (hv : v < 18446744073709551616) : num (sev v ++ r) = (v, (sev v).length, 0) := by
  unfold num
  rw [numG_sev 10 0 v 0 r rfl (by decide) (Nat.lt_of_lt_of_le hv (by decide)) (fun h => by omega) (fun h => by omega) (by omega)]
  simp

/-- What is taken, put again, is the very bytes. -/
theorem numG_back (f i u : Nat) (b : List UInt8) (v n : Nat) (h : numG f i u b = (v, n, 0)) (hf : f + i = 10) : ∃ q, v = u + q * 128 ^ i ∧ i < n ∧ n - i ≤ b.length ∧ sev q = b.take (n - i) ∧ (0 < i → 0 < q) ∧ q < 128 ^ f ∧ (i ≤ 9 → q * 128 ^ i < 18446744073709551616) := by
  induction f generalizing i u b with
  | zero => simp [numG] at h
  | succ f ih =>
    cases b with
    | nil => simp [numG] at h
    | cons x xs =>
      have hx : x.toNat < 256 := x.toNat_lt
      rw [numG] at h
      by_cases hc : (i = 9 ∧ 1 < x.toNat) ∨ (0 < i ∧ x.toNat = 0)
      · rw [if_pos hc] at h
        simp at h
      · rw [if_neg hc] at h
        have hc9 : i = 9 → x.toNat ≤ 1 := fun e => Nat.le_of_not_lt fun h2 => hc (.inl ⟨e, h2⟩)
        have hc0 : 0 < i → 0 < x.toNat := fun e => Nat.pos_of_ne_zero fun h2 => hc (.inr ⟨e, h2⟩)
        by_cases hl : x.toNat < 128
        · rw [if_pos hl] at h
          simp only [Prod.mk.injEq, and_true] at h
          obtain ⟨rfl, rfl⟩ := h
          refine ⟨x.toNat, rfl, by omega, by simp, ?_, hc0, ?_, fun hi => ?_⟩
          · rw [sev_lt _ hl, show i + 1 - i = 1 by omega]
            simp
          · rw [pow7]
            have : 0 < 128 ^ f := Nat.pow_pos (by decide)
            exact Nat.lt_of_lt_of_le hl (Nat.le_mul_of_pos_left _ this)
          · rcases Nat.lt_or_ge i 9 with h8 | h8
            · have hp : 128 ^ i ≤ 128 ^ 8 := Nat.pow_le_pow_right (by decide) (by omega)
              have : x.toNat * 128 ^ i ≤ 127 * 128 ^ 8 := Nat.mul_le_mul (by omega) hp
              have e8 : (127 * 128 ^ 8 : Nat) = 9151314442816847872 := by decide
              omega
            · obtain rfl : i = 9 := by omega
              have := hc9 rfl
              have e9 : (128 : Nat) ^ 9 = 9223372036854775808 := by decide
              rw [e9]
              omega
        · rw [if_neg hl] at h
          obtain ⟨q, hv, hn, hlen, hs, hq0, hqf, hq9⟩ := ih (i + 1) _ xs h (by omega)
          have hq := hq0 (by omega)
          have hi8 : i ≤ 8 := Nat.le_of_not_lt fun h2 => by
            have := hc9 (by
              have : 0 < f := by
                rcases Nat.eq_zero_or_pos f with rfl | h0
                · simp at hqf; omega
                · exact h0
              omega)
            omega
          refine ⟨q * 128 + (x.toNat - 128), ?_, by omega, by rw [List.length_cons]; omega, ?_, fun _ => by omega, ?_, fun _ => ?_⟩
          · rw [hv, pow7, Nat.add_mul, ← Nat.mul_assoc, Nat.mul_right_comm q 128]
            omega
          · rw [sev_ge _ (by omega), show (q * 128 + (x.toNat - 128)) % 128 + 128 = x.toNat by omega, show (q * 128 + (x.toNat - 128)) / 128 = q by omega, hs, UInt8.ofNat_toNat, show n - i = (n - (i + 1)) + 1 by omega, List.take_succ_cons]
          · rw [pow7]
            omega
          · have h9 := hq9 (by omega)
            have hw : (18446744073709551616 : Nat) = 2 * 128 ^ (8 - i) * 128 ^ (i + 1) := by
              rw [Nat.mul_assoc, ← Nat.pow_add, show 8 - i + (i + 1) = 9 by omega]
            have hp : 0 < 128 ^ (i + 1) := Nat.pow_pos (by decide)
            rw [hw] at h9 ⊢
            have h10 := Nat.lt_of_mul_lt_mul_right h9
            have h11 : (q * 128 + (x.toNat - 128)) * 128 ^ i < ((q + 1) * 128) * 128 ^ i := Nat.mul_lt_mul_of_pos_right (by omega) (Nat.pow_pos (by decide))
            have h12 : (q + 1) * 128 ^ (i + 1) ≤ 2 * 128 ^ (8 - i) * 128 ^ (i + 1) := Nat.mul_le_mul_right _ h10
            rw [pow7, ← Nat.mul_assoc, Nat.mul_right_comm] at h12
            exact Nat.lt_of_lt_of_le h11 (by rw [pow7]; exact h12)

theorem num_back (b : List UInt8) (v n : Nat) (h : num b = (v, n, 0)) : v < 18446744073709551616 ∧ 0 < n ∧ n ≤ b.length ∧ sev v = b.take n := by
  obtain ⟨q, hv, hn, hl, hs, _, _, h9⟩ := numG_back 10 0 0 b v n h rfl
  have h9 := h9 (by omega)
  simp at hv h9
  subst hv
  exact ⟨h9, hn, by simpa using hl, by simpa using hs⟩

theorem numG_no (f i u : Nat) (b : List UInt8) : (numG f i u b).2.2 = 0 ∨ ((numG f i u b).1 = 0 ∧ (numG f i u b).2.1 = 0 ∧ ((numG f i u b).2.2 = 2 ∨ (numG f i u b).2.2 = 4)) := by
  induction f generalizing i u b with
  | zero => exact .inr ⟨rfl, rfl, .inr rfl⟩
  | succ f ih =>
    cases b with
    | nil => exact .inr ⟨rfl, rfl, .inl rfl⟩
    | cons x xs =>
      rw [numG]
      split
      · exact .inr ⟨rfl, rfl, .inr rfl⟩
      · split
        · exact .inl rfl
        · exact ih _ _ _

theorem sev_len (f v : Nat) (h : v < 128 ^ (f + 1)) : (sev v).length ≤ f + 1 := by
  induction f generalizing v with
  | zero => rw [sev_lt v (by simpa using h)]; simp
  | succ f ih =>
    by_cases h1 : v < 128
    · rw [sev_lt v h1]; simp
    · rw [sev_ge v (by omega), List.length_cons]
      have := ih (v / 128) (by rw [Nat.div_lt_iff_lt_mul (by decide)]; rw [pow7] at h; exact h)
      omega

theorem sev_len10 (v : Nat) (h : v < 18446744073709551616) : (sev v).length ≤ 10 := sev_len 9 v (Nat.lt_of_lt_of_le h (by decide))

/-- The text at the beginning: its bytes, how many it has in all, the error's number. -/
def taken (b : List UInt8) (most : Nat) : List UInt8 × Nat × Nat :=
  if (num b).2.2 ≠ 0 then ([], 0, (num b).2.2)
  else if most < (num b).1 then ([], 0, 3)
  else if b.length - (num b).2.1 < (num b).1 then ([], 0, 2)
  else ((b.drop (num b).2.1).take (num b).1, (num b).2.1 + (num b).1, 0)

def txt (s : List UInt8) : List UInt8 := sev s.length ++ s

theorem taken_txt (s r : List UInt8) (most : Nat) (hs : s.length < 18446744073709551616) (hm : s.length ≤ most) : taken (txt s ++ r) most = (s, (txt s).length, 0) := by
  have h := num_sev s.length (s ++ r) hs
  unfold taken txt
  rw [List.append_assoc, h]
  simp only [ne_eq, not_true_eq_false, if_false]
  rw [if_neg (by omega), if_neg (by simp)]
  simp

theorem taken_back (b : List UInt8) (most : Nat) (s : List UInt8) (n : Nat) (h : taken b most = (s, n, 0)) : n ≤ b.length ∧ txt s = b.take n ∧ s.length ≤ most := by
  unfold taken at h
  obtain ⟨v, k, no, hn⟩ : ∃ v k no, num b = (v, k, no) := ⟨_, _, _, rfl⟩
  rw [hn] at h
  simp only [ne_eq] at h
  by_cases h0 : no = 0
  · subst h0
    obtain ⟨h1, h2, h3, h4⟩ := num_back b v k hn
    rw [if_neg (by omega)] at h
    by_cases h5 : most < v
    · rw [if_pos h5] at h; simp at h
    · rw [if_neg h5] at h
      by_cases h6 : b.length - k < v
      · rw [if_pos h6] at h; simp at h
      · rw [if_neg h6] at h
        simp only [Prod.mk.injEq, and_true] at h
        obtain ⟨rfl, rfl⟩ := h
        have hl : ((b.drop k).take v).length = v := by rw [List.length_take, List.length_drop]; omega
        refine ⟨by omega, ?_, by omega⟩
        unfold txt
        rw [hl, h4, List.take_add]
  · rw [if_pos h0] at h
    simp at h
    exact absurd h.2.2 h0

end Pk
end Go.Proofs.YthdibodmnpcekaaGreatDoor
/- The document's numbers and texts as bytes: Sevens, Text. -/
namespace Go.Proofs.YthdibodmnpcekaaGreatDoor
set_option linter.ambiguousOpen false
open Go.RowKit
namespace Pk
open Sm
set_option linter.unusedSimpArgs false
set_option linter.unusedVariables false

theorem and127 (n : Nat) (h : n < 18446744073709551616) : bits .and .u64 (n : Int) 127 = ((n % 128 : Nat) : Int) := by
  have e := bits_and_u64_nat n 127 h (by omega)
  rw [show (127 : Nat) = 2 ^ 7 - 1 from rfl, Nat.and_two_pow_sub_one_eq_mod] at e
  exact e

theorem or128 (n : Nat) (h : n < 128) : bits .or .u8 (n : Int) 128 = ((n + 128 : Nat) : Int) := by
  have e := u8_or_nat n 128 (by omega) (by omega)
  rw [show n ||| 128 = n + 128 from by
    have := Nat.two_pow_add_eq_or_of_lt (i := 7) (b := n) (by omega) 1
    rw [Nat.or_comm]
    simp at this
    omega] at e
  exact e

end Pk
end Go.Proofs.YthdibodmnpcekaaGreatDoor
/- Appending a text's bytes to an owned row, and where the row lies then; rows of bytes: the same?, a copy. -/
namespace Go.Proofs.YthdibodmnpcekaaGreatDoor
set_option linter.ambiguousOpen false
open Go.RowKit
namespace Pk
open Sm
set_option linter.unusedSimpArgs false
set_option linter.unusedVariables false

theorem strCells_tx (l : List UInt8) : Lib.strCells (tx l) = l.map by1 := rfl

theorem append_text {w : World} {base n : Nat} {v : Value} {xs : List Value} (hown : w.ownsRow base 5 1 v n xs) (l : List UInt8) (hb : n + l.length ≤ 140737488355328) (hbase : base ≤ w.heap.size) (ty : TypeId) :
    ∃ v' w', (Builtin.append_ #[46, 9] ty #[v, .string (tx l)]).run Tryz.prog w = .ok v' w' ∧ w'.ownsRow base 5 1 v' (n + l.length) (xs ++ l.map by1) ∧ w.grownBy w' v.ownBlock ∧ (v'.ownBlock = v.ownBlock ∨ v'.ownBlock = some w.heap.size) := by
  obtain ⟨i0, hi, hz0, hz1, hz2⟩ := info_parts info_byte
  have hs : (tx l).size = l.length := rfl
  obtain ⟨v', w', hr, h2, h3, h4⟩ := Lib.run_append_own_string (P := Tryz.prog) w base 46 9 ty 5 i0 Tryz.underlying46 Tryz.underlying9 hi hz0 hz1 hz2 v n xs hown (tx l) (by unfold maxLen; omega) (by omega) hbase
  refine ⟨v', w', hr, h2, h3, ?_⟩
  rcases hown.2 with ⟨rfl, rfl⟩ | ⟨g, cap, cur, rfl, hbg, hg, hnc, hcm, hcs, htake⟩
  · by_cases hm : l.length = 0
    · left
      rw [h4.2 ⟨rfl, by omega⟩]
    · right
      have hr2 := run_append_nil_string (P := Tryz.prog) w 46 9 ty 5 i0 (.int .u8 0) Tryz.underlying46 Tryz.underlying9 hi hz0 (tx l) (by omega) (by omega) (by rw [hz2]; omega)
      rw [(Result.ok.inj (hr.symm.trans hr2)).1]
      rfl
  · by_cases hroom : n + l.length ≤ cap
    · left
      have hr2 := Lib.run_append_room_string (P := Tryz.prog) w 46 9 ty 5 i0 Tryz.underlying46 Tryz.underlying9 hi hz1 g n cap cur hg (tx l) hroom (by omega)
      rw [(Result.ok.inj (hr.symm.trans hr2)).1]
      rfl
    · right
      have hxl : xs.length = n := by simpa using hown.1
      have hr2 := Lib.run_append_grow_string (P := Tryz.prog) w 46 9 ty 5 i0 (.int .u8 0) Tryz.underlying46 Tryz.underlying9 hi hz0 ⟨g, 0, none⟩ n cap xs (by rw [hz1]; simpa using hxl) (hown.cells (g := g) rfl) (tx l) (by omega) (by omega) (by rw [hz2]; exact growslice_fits (by omega) (by omega))
      rw [(Result.ok.inj (hr.symm.trans hr2)).1]
      rfl

theorem wpList_append_text {w : World} {ops : Array Oper} {rest : List Oper} {o : Oper} {a : Act} {Q : Exit → Act → World → Prop} (hgd : o.guard = none) (s x : Operand)
    (ho : o.op = .call { callee := .builtin .append, args := #[s, x], argTypes := #[46, 9] })
    (base n : Nat) (v : Value) (f : ByteArray) (xs : List Value) (l : List UInt8) (hs : a.eval s = v) (hx : a.eval x = .string f) (hf : f = tx l) (hown : w.ownsRow base 5 1 v n xs) (hb : n + l.length ≤ 140737488355328) (hbase : base ≤ w.heap.size)
    (h : ∀ v' w', w'.ownsRow base 5 1 v' (n + l.length) (xs ++ l.map by1) → w.grownBy w' v.ownBlock → (v'.ownBlock = v.ownBlock ∨ v'.ownBlock = some w.heap.size) → wpList Tryz.prog ops Q rest (a.put o.dst v') w') : wpList Tryz.prog ops Q (o :: rest) a w := by
  subst hf
  refine wpList_plain hgd fun K hK => ?_
  obtain ⟨v', w', hr, h1, h2, h3⟩ := append_text hown l hb hbase o.type
  unfold Oper.wp execOp
  simp only [ho, resolve, invoke, builtin, Sem.run_bind, Sem.run_pure, Result.andThen_ok, List.map_toArray, List.map_cons, List.map_nil, hs, hx, hr]
  exact hK _ _ (h v' w' h1 h2 h3)

end Pk
end Go.Proofs.YthdibodmnpcekaaGreatDoor
/- Appending a row of bytes (which may be nil) to an owned one, and where the row lies then. -/
namespace Go.Proofs.YthdibodmnpcekaaGreatDoor
set_option linter.ambiguousOpen false
open Go.RowKit
namespace Pk
open Sm
set_option linter.unusedSimpArgs false
set_option linter.unusedVariables false

/-- Nothing, or a slice that lies somewhere. -/
def Nz (u : Value) : Prop := u = .slice none 0 0 ∨ ∃ ad m c, u = .slice (some ad) m c

theorem nz_own {w : World} {base n : Nat} {e : TypeId} {size : Nat} {v : Value} {xs : List Value} (h : w.ownsRow base e size v n xs) : Nz v := by
  rcases h.2 with ⟨rfl, _⟩ | ⟨g, cap, cur, rfl, _⟩
  · exact .inl rfl
  · exact .inr ⟨_, _, _, rfl⟩

theorem append_rowP {w : World} {base n : Nat} {v : Value} {xs : List Value} (hown : w.ownsRow base 5 1 v n xs) {u : Value} {l : List UInt8} (hR : RdB w u l) (hz : Nz u) (hb : n + l.length ≤ 140737488355328) (hbase : base ≤ w.heap.size) (ty : TypeId) :
    ∃ v' w', (Builtin.append_ #[46, 46] ty #[v, u]).run Tryz.prog w = .ok v' w' ∧ w'.ownsRow base 5 1 v' (n + l.length) (xs ++ l.map by1) ∧ w.grownBy w' v.ownBlock ∧ (v'.ownBlock = v.ownBlock ∨ v'.ownBlock = some w.heap.size) := by
  obtain ⟨i0, hi, hz0, hz1, hz2⟩ := info_parts info_byte
  obtain ⟨a, cap, rfl, h1, h2, h3⟩ := hR
  rcases hz with hz | ⟨ad, m, c, hz⟩
  · obtain ⟨rfl, h0, rfl⟩ : a = none ∧ l.length = 0 ∧ cap = 0 := by simpa using hz
    obtain rfl := List.eq_nil_of_length_eq_zero h0
    refine ⟨v, w, ?_, by simpa using hown, ⟨rfl, rfl, rfl, Nat.le_refl _, fun _ _ _ => rfl⟩, .inl rfl⟩
    exact run_append_owned_none w base 46 ty 5 i0 1 Tryz.underlying46 hi v n xs hown
  · obtain ⟨rfl, h0, rfl⟩ : a = some ad ∧ l.length = m ∧ cap = c := by simpa using hz
    have hn : ∀ j u, (l.map by1)[j]? = some u → w.cell? (ad.add j) = some u := fun j u hj => by
      have hj' : j < l.length := by
        have := (List.getElem?_eq_some_iff.1 hj).1
        simpa using this
      obtain ⟨g, o, e1, _, e3⟩ := h3 (by omega)
      cases e1
      rw [List.getElem?_map, List.getElem?_eq_getElem hj'] at hj
      rw [Addr.add_mid, e3 j hj']
      exact hj
    obtain ⟨v', w', hr, g1, g2, _, g4⟩ := run_append_own_at (P := Tryz.prog) w base 46 ty 5 i0 (.int .u8 0) 1 1 Tryz.underlying46 hi hz0 hz1 hz2 rfl (by decide) v n xs hown ad l.length cap (l.map by1) (by simp) hn (fun u hu => by
      obtain ⟨b, _, rfl⟩ := List.mem_map.1 hu
      rfl) (by unfold maxLen; omega) (by omega) hbase
    exact ⟨v', w', hr, g1, g2, g4⟩

theorem wpList_append_rowP {w : World} {ops : Array Oper} {rest : List Oper} {o : Oper} {a : Act} {Q : Exit → Act → World → Prop} (hgd : o.guard = none) (s x : Operand)
    (ho : o.op = .call { callee := .builtin .append, args := #[s, x], argTypes := #[46, 46] })
    (base n : Nat) (v u : Value) (xs : List Value) (l : List UInt8) (hs : a.eval s = v) (hx : a.eval x = u) (hown : w.ownsRow base 5 1 v n xs) (hR : RdB w u l) (hz : Nz u) (hb : n + l.length ≤ 140737488355328) (hbase : base ≤ w.heap.size)
    (h : ∀ v' w', w'.ownsRow base 5 1 v' (n + l.length) (xs ++ l.map by1) → w.grownBy w' v.ownBlock → (v'.ownBlock = v.ownBlock ∨ v'.ownBlock = some w.heap.size) → wpList Tryz.prog ops Q rest (a.put o.dst v') w') : wpList Tryz.prog ops Q (o :: rest) a w := by
  refine wpList_plain hgd fun K hK => ?_
  obtain ⟨v', w', hr, h1, h2, h3⟩ := append_rowP hown hR hz hb hbase o.type
  unfold Oper.wp execOp
  simp only [ho, resolve, invoke, builtin, Sem.run_bind, Sem.run_pure, Result.andThen_ok, List.map_toArray, List.map_cons, List.map_nil, hs, hx, hr]
  exact hK _ _ (h v' w' h1 h2 h3)

end Pk
end Go.Proofs.YthdibodmnpcekaaGreatDoor
/- The document's number at the beginning of some bytes. -/
namespace Go.Proofs.YthdibodmnpcekaaGreatDoor
set_option linter.ambiguousOpen false
open Go.RowKit
namespace Pk
open Sm
set_option linter.unusedSimpArgs false
set_option linter.unusedVariables false

theorem and127b (n : Nat) (h : n < 256) : bits .and .u8 (n : Int) 127 = ((n % 128 : Nat) : Int) := by
  have e := u8_and_nat n 127 h (by omega)
  rw [show (127 : Nat) = 2 ^ 7 - 1 from rfl, Nat.and_two_pow_sub_one_eq_mod] at e
  exact e

theorem pow27 (k : Nat) : (2 : Nat) ^ (7 * k) = 128 ^ k := by rw [Nat.pow_mul]

/-- Seven bits more. -/
theorem or_more (u y k : Nat) (hu : u < 128 ^ k) (hy : y < 128) (h64 : u + y * 128 ^ k < 18446744073709551616) : bits .or .u64 (u : Int) (IntKind.u64.wrap ((y : Int) * 2 ^ (7 * k))) = ((u + y * 128 ^ k : Nat) : Int) := by
  have h1 : y * 128 ^ k < 18446744073709551616 := by omega
  have e : (y : Int) * 2 ^ (7 * k) = ((y * 128 ^ k : Nat) : Int) := by
    rw [← pow27]
    push_cast
    rfl
  rw [e, IntKind.wrap_u64, Int.emod_eq_of_lt (by omega) (by omega), u64_or_nat u (y * 128 ^ k) (by omega) h1]
  congr 1
  rw [← pow27] at hu ⊢
  have := Nat.two_pow_add_eq_or_of_lt hu y
  rw [Nat.or_comm, Nat.mul_comm y, ← this]
  omega

theorem numG_nil (f i u : Nat) (h : 0 < f) : numG f i u [] = (0, 0, 2) := by
  cases f with
  | zero => omega
  | succ f => rfl

theorem numG_cons (f i u : Nat) (x : UInt8) (xs : List UInt8) (h : 0 < f) : numG f i u (x :: xs) = if (i = 9 ∧ 1 < x.toNat) ∨ (0 < i ∧ x.toNat = 0) then (0, 0, 4) else if x.toNat < 128 then (u + x.toNat * 128 ^ i, i + 1, 0) else numG (f - 1) (i + 1) (u + (x.toNat - 128) * 128 ^ i) xs := by
  cases f with
  | zero => omega
  | succ f => rfl

/-- What is told by seven bits a byte is below 2 ^ 64. -/
theorem seven_lt (u y k : Nat) (hu : u < 128 ^ k) (hy : y < 128) (hk : k ≤ 9) (h9 : k = 9 → y ≤ 1) : u + y * 128 ^ k < 128 ^ (k + 1) ∧ u + y * 128 ^ k < 18446744073709551616 := by
  have h1 : u + y * 128 ^ k < 128 ^ (k + 1) := by
    rw [pow7]
    have : y * 128 ^ k ≤ 127 * 128 ^ k := Nat.mul_le_mul_right _ (by omega)
    omega
  refine ⟨h1, ?_⟩
  rcases Nat.lt_or_ge k 9 with h | h
  · have : 128 ^ (k + 1) ≤ 128 ^ 9 := Nat.pow_le_pow_right (by decide) (by omega)
    have e : (128 : Nat) ^ 9 = 9223372036854775808 := by decide
    omega
  · obtain rfl : k = 9 := by omega
    have := h9 rfl
    have e : (128 : Nat) ^ 9 = 9223372036854775808 := by decide
    rw [e] at hu ⊢
    omega

end Pk
end Go.Proofs.YthdibodmnpcekaaGreatDoor
/- The document's text at the beginning of some bytes; rows of bytes: the same?, a copy. -/
namespace Go.Proofs.YthdibodmnpcekaaGreatDoor
set_option linter.ambiguousOpen false
open Go.RowKit
namespace Pk
open Sm
set_option linter.unusedSimpArgs false
set_option linter.unusedVariables false

theorem slice_midP (a : Option Addr) (len cap i j : Nat) (h : i ≤ j) (hj : j ≤ cap) (w : World) : (Instr.slice 46 (.slice a len cap) (some (.int .i64 (i : Int))) (some (.int .i64 (j : Int))) none).run Tryz.prog w = .ok (.slice (further a cap i) (j - i) (cap - i)) w := by
  have h1 : (0 : Int) ≤ (i : Int) ∧ (i : Int) ≤ (j : Int) := by omega
  have h2 : (0 : Int) ≤ (j : Int) ∧ (j : Int) ≤ (cap : Int) := by omega
  have hu := Tryz.underlying46
  cases a with
  | none =>
    simp [Instr.slice, Instr.sliceBounds, Instr.sliceBound, asIntOf, run_underlying hu, further]
    rw [if_pos hj, if_pos h]
  | some ad =>
    simp [Instr.slice, Instr.sliceBounds, Instr.sliceBound, asIntOf, run_underlying hu, Addr.add, further]
    rw [if_pos hj, if_pos h]

/-- A row of bytes as a text. -/
theorem conv_rd {w : World} {v : Value} {l : List UInt8} (h : RdB w v l) : (convert 46 9 v).run Tryz.prog w = .ok (.string (tx l)) w := by
  obtain ⟨a, cap, rfl, h1, h2, h3⟩ := h
  cases a with
  | none =>
    cases l with
    | nil =>
      rw [run_convert_bytes_string w 46 9 5 none _ cap Tryz.underlying46 Tryz.underlying5 Tryz.underlying9]
      unfold Conv.bytesToString
      simp
      rfl
    | cons x l =>
      obtain ⟨g, o, e, _⟩ := h3 (by simp)
      cases e
  | some ad =>
    refine run_convert_bytes_back w 46 9 5 ad cap l Tryz.underlying46 Tryz.underlying5 Tryz.underlying9 (fun j hj => ?_)
    obtain ⟨g, o, e, _, hc⟩ := h3 (by omega)
    cases e
    rw [Addr.add_mid]
    exact hc j hj

theorem rd_mid {w : World} {a : Option Addr} {l : List UInt8} {cap : Nat} (h : RdB w (.slice a l.length cap) l) (i j : Nat) (hij : i ≤ j) (hj : j ≤ l.length) : RdB w (.slice (further a cap i) (j - i) (cap - i)) ((l.drop i).take (j - i)) := by
  have h1 := h.drop i (by omega)
  have e : (l.drop i).length = l.length - i := List.length_drop ..
  rw [← e] at h1
  exact h1.take (j - i) (by omega)

end Pk
end Go.Proofs.YthdibodmnpcekaaGreatDoor
/- Rows of bytes: the same, a copy. -/
namespace Go.Proofs.YthdibodmnpcekaaGreatDoor
set_option linter.ambiguousOpen false
open Go.RowKit
namespace Pk
open Sm
set_option linter.unusedSimpArgs false
set_option linter.unusedVariables false

theorem below_dn {b : Nat} {w w' : World} (h : Below b w w') (n : Nat) : Below b w (w'.drewN n) := ⟨h.os, h.tape, h.output, h.size, h.block⟩

set_option maxRecDepth 100000 in
set_option maxHeartbeats 2000000 in
theorem sameB_eq (v1 v2 : Value) (l : List UInt8) (w : World) (h1 : RdB w v1 l) (h2 : RdB w v2 l) :
    Calls Tryz.prog 55 #[v1, v2] w fun e w' => e = .returned (.bool true) ∧ Below w.heap.size w w' := by
  obtain ⟨a, cap, rfl, hc, hm, hcell⟩ := h1
  obtain ⟨a2, cap2, rfl, hc2, hm2, hcell2⟩ := h2
  unfold maxLen at hm hm2
  have HC := Hid.mk' hcell
  have HC2 := Hid.mk' hcell2
  clear hcell hcell2
  have hne : ((l.length : Int) != (l.length : Int)) = false := by simp
  go_enter Tryz.func55, Tryz.ntmps55
  go_wp2
  go_loopw [5] (fun iv wr => ∃ k : Nat, k ≤ l.length ∧ iv = .int .i64 k ∧ Hid (Below w.heap.size w wr)) (fun iv _ => l.length - (intOf iv).toNat)
  case atStart => exact ⟨0, Nat.zero_le _, rfl, Below.refl _ _⟩
  case round =>
    obtain ⟨k, hk, rfl, hbel⟩ := hrel
    by_cases hp : k < l.length
    · obtain ⟨g, o, rfl, hgl, hcj⟩ := HC.out (Nat.lt_of_le_of_lt (Nat.zero_le _) hp)
      obtain ⟨g2, o2, rfl, hgl2, hcj2⟩ := HC2.out (Nat.lt_of_le_of_lt (Nat.zero_le _) hp)
      have q0 := hcj k hp
      have q2 := hcj2 k hp
      rw [← hbel.out.cell (p := ⟨g, o + k, none⟩) hgl] at q0
      rw [← hbel.out.cell (p := ⟨g2, o2 + k, none⟩) hgl2] at q2
      unfold by1 at q0 q2
      generalize ((l[k]).toNat : Int) = x at *
      clear hcj hcj2
      have z0 : (0 : Int) ≤ (k : Int) := by omega
      have z1 : (k : Int) < (l.length : Int) := by omega
      go_wp2_with fail
      go_quiet (fail)
      have hB2 := Hid.mk' (below_dn hbel.out nq)
      clear q0 q2
      go_wp2
      go_roundw
      case rel => exact ⟨k + 1, by omega, by go_num, hB2⟩
      case measure => simp [intOf]; omega
    · obtain rfl : k = l.length := by omega
      go_wp2
      go_ret
      exact ⟨rfl, hbel.out⟩

set_option maxRecDepth 100000 in
set_option maxHeartbeats 2000000 in
theorem copyB_any (v : Value) (l : List UInt8) (w : World) (hR : RdB w v l) (hl : l.length ≤ 140737488351232) :
    Calls Tryz.prog 80 #[v] w fun e w' => ∃ v', e = .returned v' ∧ w'.ownsRow w.heap.size 5 1 v' l.length (l.map by1) ∧ Below w.heap.size w w' := by
  obtain ⟨i0, hi, hz0, hz1, hz2⟩ := info_parts info_byte
  obtain ⟨a, cap, rfl, hc, hm, hcell⟩ := hR
  unfold maxLen at hm
  have HC : Hid (0 < l.length → ∃ g o, a = some ⟨g, o, none⟩ ∧ g < w.heap.size ∧ ∀ j (hj : j < l.length), w.cell? ⟨g, o + j, none⟩ = some (by1 l[j])) := hcell
  clear hcell
  go_enter Tryz.func80, Tryz.ntmps80
  go_wp2
  go_loopw [3, 4] (fun pv iv wr => ∃ k : Nat, k ≤ l.length ∧ iv = .int .i64 k ∧ wr.ownsRow w.heap.size 5 1 pv k ((l.take k).map by1) ∧ Below w.heap.size w wr) (fun _ iv _ => l.length - (intOf iv).toNat)
  case atStart => exact ⟨0, Nat.zero_le _, rfl, World.ownsRow_nil _ _ _ _, Below.refl _ _⟩
  case round =>
    obtain ⟨k, hk, rfl, hown, hbel⟩ := hrel
    by_cases hp : k < l.length
    · obtain ⟨g, o, rfl, hgl, hcj⟩ := HC.out (Nat.lt_of_le_of_lt (Nat.zero_le _) hp)
      have hck : wr.cell? ⟨g, o + k, none⟩ = some (by1 l[k]) := (hbel.cell (p := ⟨g, o + k, none⟩) hgl).trans (hcj k hp)
      have HS : Hid ((l.take (k + 1)).map by1 = (l.take k).map by1 ++ [by1 l[k]]) := by
        show _ = _
        rw [List.take_succ_eq_append_getElem hp, List.map_append]; rfl
      clear hcj
      generalize l[k] = x at *
      go_wp2_with (at_builtin; refine wpList_append_own _ rfl _ _ 46 rfl w.heap.size 5 i0 (.int .u8 0) 1 1 Tryz.underlying46 hi hz0 hz1 hz2 rfl (by decide) _ _ _ rfl (hown.alloc _) ⟨wr.heap.size, 0, none⟩ 1 1 [by1 x] rfl rfl (cell_one_new _ _ _) (by simp [Value.oneCell']) (by unfold maxLen; omega) (by omega) (by have := hbel.size; simp; omega) ?_; intro v' w4 hown4 hgrow _; have hbel4 : Below w.heap.size w w4 := Below.grown (hbel.alloc (by exact hbel.size) _) hgrow (by have := hbel.size; simp; omega) (fun k hk => (hown.lt k hk).1))
      go_roundw
      case rel => exact ⟨k + 1, by omega, by go_num, by rw [HS.out]; exact hown4, hbel4⟩
      case measure => simp [intOf]; omega
    · obtain rfl : k = l.length := by omega
      go_wp2
      go_ret
      rw [List.take_length] at hown
      exact ⟨_, rfl, hown, hbel⟩
end Pk
end Go.Proofs.YthdibodmnpcekaaGreatDoor
