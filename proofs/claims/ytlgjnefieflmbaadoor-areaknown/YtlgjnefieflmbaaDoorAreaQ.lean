/- What Save leaves, whenever the power fails: the old image or the new one. No program is named here. -/
import Derived.Test.YtlgjnefieflmbaaDoorAreaP
namespace Go.Proofs.YtlgjnefieflmbaaDoor
set_option linter.ambiguousOpen false
open Go.RowKit
namespace Ae
open Sm Ft Dk Rc
set_option linter.unusedSimpArgs false
set_option linter.unusedVariables false

theorem may_out {d : Dsk} {a n : Int} (h : may d a n = true) : 0 ≤ a ∧ 1 ≤ n ∧ a + 1 + 2 * n ≤ d.n := of_decide_eq_true h

/-- An area's blocks lie in the place. -/
theorem fst_in (a n : Int) (ep k : Nat) (h1 : 1 ≤ n) (hk : (k : Int) ≤ n) : a + 1 ≤ fst a n ep ∧ fst a n ep + (k : Int) ≤ a + 1 + 2 * n := by
  unfold fst
  rcases Nat.mod_two_eq_zero_or_one ep with e | e <;> rw [e]
  · constructor <;> omega
  · constructor <;> omega

theorem pcs_fit (x : List UInt8) (n : Int) (h : ¬ n * 256 < (x.length : Int)) : ((pcs x).length : Int) ≤ n := by
  rw [pcs_count]
  omega

theorem save_img {d : Dsk} {a n : Int} {ep : Nat} {x : List UInt8} (hep : ep < 4294967296) (hn : d.n ≤ 4096) (h : (save d a n ep x).1 = 0) : Img (save d a n ep x).2 a n ep x := by
  unfold save at h ⊢
  split at h
  · rename_i hm
    rw [if_pos hm]
    split at h
    · simp at h
    · rename_i hl
      rw [if_neg hl]
      split at h
      · rename_i hu
        rw [if_pos hu]
        obtain ⟨m1, m2, m3⟩ := may_out hm
        have hp := pcs_fit x n hl
        obtain ⟨f1, f2⟩ := fst_in a n ep (pcs x).length m2 hp
        have hun := (ups_n (fst a n ep) (pcs x) d).1
        simp only at h ⊢
        refine ⟨?_, hep, by omega, by omega, ?_, fun k hk => ?_⟩
        · unfold may at hm ⊢
          rw [wrD_n, hun]
          exact hm
        · rw [rdT_wrote _ _ _ _ h (by rw [hun]; omega), if_pos rfl]
        · rw [rdT_wrote _ _ _ _ h (by rw [hun]; omega), if_neg (by omega)]
          exact ups_all (pcs x) (fst a n ep) d hu (by omega) (by omega) k hk
      · rename_i hu
        exact absurd h hu
  · simp at h

/-- With the power on. -/
theorem save_on {d : Dsk} {a n : Int} {ep : Nat} {x : List UInt8} (hm : may d a n = true) (hl : ¬ n * 256 < (x.length : Int)) (hd : d.left = -1) : (save d a n ep x).1 = 0 ∧ (save d a n ep x).2.left = -1 ∧ (save d a n ep x).2.n = d.n ∧ (save d a n ep x).2.tr.length ≤ d.tr.length + (pcs x).length + 1 := by
  obtain ⟨m1, m2, m3⟩ := may_out hm
  have hp := pcs_fit x n hl
  obtain ⟨f1, f2⟩ := fst_in a n ep (pcs x).length m2 hp
  obtain ⟨u1, u2⟩ := (ups_left (pcs x) (fst a n ep) d (by omega) (by omega) (fun t ht => pcs_short x.length x (Nat.le_refl _) t ht) (by omega)).1 hd
  have hun := ups_n (fst a n ep) (pcs x) d
  have hw : wrN (ups (fst a n ep) (pcs x) d).2 a (hdr ep x) = 0 := by
    unfold wrN
    rw [if_pos (by rw [hun.1]; omega), if_neg (by rw [hdr_len]; omega), if_neg (by rw [u2]; decide)]
  have hL : (wrD (ups (fst a n ep) (pcs x) d).2 a (hdr ep x)).left = -1 := by
    unfold wrD
    rw [if_pos hw]
    simp only
    rw [u2]
    decide
  have ht := wrD_tr (ups (fst a n ep) (pcs x) d).2 a (hdr ep x)
  rw [save, if_pos hm, if_neg hl, if_pos u1]
  exact ⟨hw, hL, (wrD_n _ _ _).trans hun.1, by simp only; omega⟩

/-- The power fails amid the next image: all was written, or the old one is there. -/
theorem save_cut {d : Dsk} {a n : Int} {ep ep2 : Nat} {x y : List UInt8} (hI : Img d a n ep x) (hn : d.n ≤ 4096) (hl : ¬ n * 256 < (y.length : Int)) (hp2 : ep2 % 2 ≠ ep % 2) (hd : 0 ≤ d.left) :
    ((((pcs y).length + 1 : Nat) : Int) ≤ d.left → (save d a n ep2 y).1 = 0) ∧ (¬ (((pcs y).length + 1 : Nat) : Int) ≤ d.left → (save d a n ep2 y).1 = 22 ∧ Img (save d a n ep2 y).2 a n ep x) := by
  have hm := hI.mayb
  obtain ⟨m1, m2, m3⟩ := may_out hm
  have hp := pcs_fit y n hl
  have hpx := pcs_fit x n (by have := hI.len; omega)
  obtain ⟨f1, f2⟩ := fst_in a n ep2 (pcs y).length m2 hp
  obtain ⟨g1, g2⟩ := fst_in a n ep (pcs x).length m2 hpx
  obtain ⟨u1, u2⟩ := (ups_left (pcs y) (fst a n ep2) d (by omega) (by omega) (fun t ht => pcs_short y.length y (Nat.le_refl _) t ht) (by omega)).2 hd
  have hun := (ups_n (fst a n ep2) (pcs y) d).1
  have hin : 0 ≤ a ∧ a < (ups (fst a n ep2) (pcs y) d).2.n := by rw [hun]; omega
  have hsh : ¬ 256 < (hdr ep2 y).length := by rw [hdr_len]; omega
  have hold : Img (ups (fst a n ep2) (pcs y) d).2 a n ep x := by
    refine hI.same hun (ups_out (pcs y) _ d a (by omega) (by omega) (.inl (by omega))) (fun k hk => ?_)
    refine ups_out (pcs y) _ d _ (by omega) (by omega) ?_
    unfold fst
    rcases Nat.mod_two_eq_zero_or_one ep with e | e
    · have e2 : ep2 % 2 = 1 := by omega
      rw [e, e2]
      exact .inl (by omega)
    · have e2 : ep2 % 2 = 0 := by omega
      rw [e, e2]
      exact .inr (by omega)
  refine ⟨fun h => ?_, fun h => ?_⟩
  · rw [if_pos (by omega)] at u1
    have hL := u2 (by omega)
    rw [save, if_pos hm, if_neg hl, if_pos u1]
    show wrN _ a (hdr ep2 y) = 0
    unfold wrN
    rw [if_pos hin, if_neg hsh, if_neg (by rw [hL]; omega)]
  · by_cases hle : ((pcs y).length : Int) ≤ d.left
    · rw [if_pos hle] at u1
      have hL := u2 hle
      have hw : wrN (ups (fst a n ep2) (pcs y) d).2 a (hdr ep2 y) = 22 := by
        unfold wrN
        rw [if_pos hin, if_neg hsh, if_pos (by rw [hL]; omega)]
      have hD : wrD (ups (fst a n ep2) (pcs y) d).2 a (hdr ep2 y) = (ups (fst a n ep2) (pcs y) d).2 := by
        unfold wrD
        rw [hw, if_neg (by decide)]
      rw [save, if_pos hm, if_neg hl, if_pos u1, hw, hD]
      exact ⟨rfl, hold⟩
    · rw [if_neg hle] at u1
      rw [save, if_pos hm, if_neg hl, if_neg (by rw [u1]; decide)]
      exact ⟨u1, hold⟩

/-- What Save leaves of the numbers. -/
theorem save_n (d : Dsk) (a n : Int) (ep : Nat) (x : List UInt8) : (save d a n ep x).2.n = d.n := by
  unfold save
  split
  · split
    · rfl
    · split
      · exact (wrD_n _ _ _).trans (ups_n _ _ _).1
      · exact (ups_n _ _ _).1
  · rfl
end Ae
end Go.Proofs.YtlgjnefieflmbaaDoor
