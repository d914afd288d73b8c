/- As many scopes as may be, and one more; a text as long as may be, and longer. -/
import Derived.Test.YtmgddocninihoabDoorBack
import Derived.Test.YtmgddocninihoabDoorPlace
namespace Go.Proofs.YtmgddocninihoabDoor
set_option linter.ambiguousOpen false
open Go.RowKit Nm Er
namespace Sc
set_option linter.unusedSimpArgs false
set_option linter.unusedVariables false

theorem map_snocM (l : List (List UInt8)) (k : Nat) (h : k < l.length) : (l.take (k + 1)).map txt = (l.take k).map txt ++ [txt l[k]] := by
  rw [List.take_succ_eq_append_getElem h, List.map_append]; rfl

set_option maxRecDepth 100000 in
set_option maxHeartbeats 2000000 in
theorem copy_any (v : Value) (l : List (List UInt8)) (w : World) (hR : Rd w v l) (hl : l.length ≤ 1000) :
    Calls Tryd.prog 27 #[v] w fun e w' => ∃ v', e = .returned v' ∧ w'.ownsRow w.heap.size 9 1 v' l.length (l.map txt) ∧ Below w.heap.size w w' := by
  obtain ⟨i0, hi, hz0, hz1, hz2⟩ := info_parts Tryd.info9
  obtain ⟨a, cap, rfl, hc, hm, hcell⟩ := hR
  unfold maxLen at hm
  have HC : Hid (0 < l.length → ∃ g o, a = some ⟨g, o, none⟩ ∧ g < w.heap.size ∧ ∀ j (hj : j < l.length), w.cell? ⟨g, o + j, none⟩ = some (.string (B l[j]))) := hcell
  clear hcell
  go_enter Tryd.func27, Tryd.ntmps27
  go_wp2
  go_loopw [3, 4] (fun pv iv wr => ∃ k : Nat, k ≤ l.length ∧ iv = .int .i64 k ∧ wr.ownsRow w.heap.size 9 1 pv k ((l.take k).map txt) ∧ Below w.heap.size w wr) (fun _ iv _ => l.length - (intOf iv).toNat)
  case atStart => exact ⟨0, Nat.zero_le _, rfl, World.ownsRow_nil _ _ _ _, Below.refl _ _⟩
  case round =>
    obtain ⟨k, hk, rfl, hown, hbel⟩ := hrel
    by_cases hp : k < l.length
    · obtain ⟨g, o, rfl, hgl, hcj⟩ := HC.out (Nat.lt_of_le_of_lt (Nat.zero_le _) hp)
      have hck : wr.cell? ⟨g, o + k, none⟩ = some (.string (B l[k])) := (hbel.cell (p := ⟨g, o + k, none⟩) hgl).trans (hcj k hp)
      have HS : Hid ((l.take (k + 1)).map txt = (l.take k).map txt ++ [txt l[k]]) := map_snocM l k hp
      clear hcj
      go_wp2_with (at_builtin; refine wpList_append_own _ rfl _ _ 26 rfl w.heap.size 9 i0 (.string ⟨#[]⟩) 1 16 Tryd.underlying26 hi hz0 hz1 hz2 rfl (by decide) _ _ _ rfl (hown.alloc _) ⟨wr.heap.size, 0, none⟩ 1 1 [.string (B l[k])] rfl rfl (cell_one_new _ _ _) (by simp [Value.oneCell']) (by unfold maxLen; omega) (by omega) (by have := hbel.size; simp; omega) ?_; intro v' w4 hown4 hgrow _; have hbel4 : Below w.heap.size w w4 := Below.grown (hbel.alloc (by exact hbel.size) _) hgrow (by have := hbel.size; simp; omega) (fun k hk => (hown.lt k hk).1))
      go_roundw
      case rel => exact ⟨k + 1, by omega, by go_num, by rw [HS.out]; exact hown4, hbel4⟩
      case measure => simp [intOf]; omega
    · obtain rfl : k = l.length := by omega
      rw [List.take_length] at hown
      go_wp2
      go_ret
      exact ⟨_, rfl, hown, hbel⟩

/-- The i-th of many names. -/
def nmM (i : Nat) : List UInt8 := [97, UInt8.ofNat (97 + i / 26), UInt8.ofNat (97 + i % 26)]
def manyL : List (List UInt8) := (List.range 64).map nmM
theorem manyL_ok : newG [] manyL = none := by kernel_rfl
theorem manyL_at (k : Nat) (h : k < manyL.length) : manyL[k] = nmM k := by simp [manyL]

def bytesM (ns : List Int) : ByteArray := ns.foldl (fun r n => r.push (UInt8.ofNat n.toNat)) ByteArray.empty
theorem run_conv3 (w : World) (a0 a1 a2 : Int) :
    Sem.run Tryd.prog (convert 57 9 (.slice (some ⟨w.heap.size, 0, none⟩) 3 3)) (w.alloc (.cells #[.int .u8 a0, .int .u8 a1, .int .u8 a2] 5)) =
      .ok (.string (bytesM [a0, a1, a2])) (w.alloc (.cells #[.int .u8 a0, .int .u8 a1, .int .u8 a2] 5)) := by
  rw [run_convert_bytes_string _ 57 9 5 _ 3 3 Tryd.underlying57 Tryd.underlying5 Tryd.underlying9]
  refine run_bytesToString _ _ 3 3 [a0, a1, a2] ?_
  refine run_loadCells_list (w.alloc (.cells #[.int .u8 a0, .int .u8 a1, .int .u8 a2] 5)) ⟨w.heap.size, 0, none⟩ [.int .u8 a0, .int .u8 a1, .int .u8 a2] ?_
  intro j v h
  match j, h with
  | 0, h => simp at h; subst h; simp [Addr.add]
  | 1, h => simp at h; subst h; simp [Addr.add]
  | 2, h => simp at h; subst h; simp [Addr.add]
  | n + 3, h => simp at h

/-- A row of blanks. -/
def blk (n : Nat) : List UInt8 := List.replicate n 32
theorem blk_words : ∀ n k, wordsL k (blk n) = []
  | 0, k => wordsL_nil k
  | n + 1, k => by
    rw [wordsL_step k _ (by simp [blk])]
    have e : hb (blk (n + 1)) = [] := by simp [hb, blk, List.replicate_succ]
    rw [e]
    have e2 : (blk (n + 1)).drop 1 = blk n := by simp [blk]
    simp only [List.length_nil, Nat.zero_add, if_true, List.nil_append, Nat.add_zero]
    rw [e2, blk_words n]
theorem cat_m (a b : List UInt8) : B a ++ B b = B (a ++ b) := by
  apply ByteArray.ext
  simp [B]
theorem blk_cat (n m : Nat) : B (blk n) ++ B (blk m) = B (blk (n + m)) := by rw [cat_m]; simp [blk, List.replicate_append_replicate]

def strL : Value → Nat
  | .string b => b.size
  | _ => 0

set_option maxRecDepth 100000 in
set_option maxHeartbeats 2000000 in
theorem many_any (w : World) (hE : Handle w) : Calls Tryd.prog 11 #[] w fun e w' => e = .returned (.bool true) ∧ Below w.heap.size w w' := by
  obtain ⟨i0, hi, hz0, hz1, hz2⟩ := info_parts Tryd.info9
  have hcv := run_conv3
  go_enter Tryd.func11, Tryd.ntmps11
  go_wp2
  go_loopw [1, 2] (fun pv iv wr => ∃ k : Nat, k ≤ 64 ∧ iv = .int .i64 k ∧ wr.ownsRow w.heap.size 9 1 pv k ((manyL.take k).map txt) ∧ Below w.heap.size w wr) (fun _ iv _ => 64 - (intOf iv).toNat)
  case atStart => exact ⟨0, Nat.zero_le _, rfl, World.ownsRow_nil _ _ _ _, Below.refl _ _⟩
  case round =>
    obtain ⟨k, hk, rfl, hown, hbel⟩ := hrel
    by_cases hp : k < 64
    · have hkl : k < manyL.length := by simpa [manyL] using hp
      have HS : Hid ((manyL.take (k + 1)).map txt = (manyL.take k).map txt ++ [txt (nmM k)]) := by
        show _ = _
        rw [map_snocM manyL k hkl, manyL_at k hkl]
      have HB : Hid (bytesM [97, 97 + (k : Int) / 26, 97 + (k : Int) % 26] = B (nmM k)) := by
        have e1 : (97 + (k : Int) / 26).toNat = 97 + k / 26 := by omega
        have e2 : (97 + (k : Int) % 26).toNat = 97 + k % 26 := by omega
        show _ = _
        simp only [bytesM, List.foldl_cons, List.foldl_nil, e1, e2]
        rfl
      go_wp2_with (at_builtin; rw [HB.out]; refine wpList_append_own _ rfl _ _ 26 rfl w.heap.size 9 i0 (.string ⟨#[]⟩) 1 16 Tryd.underlying26 hi hz0 hz1 hz2 rfl (by decide) _ _ _ rfl ((hown.alloc _).alloc _) ⟨wr.heap.size + 1, 0, none⟩ 1 1 [.string (B (nmM k))] rfl rfl (by intro j u hj; match j, hj with | 0, hj => (simp at hj; subst hj; simp [Addr.add])) (by simp [Value.oneCell']) (by unfold maxLen; omega) (by omega) (by have := hbel.size; simp; omega) ?_; intro v' w4 hown4 hgrow _; have hbel4 : Below w.heap.size w w4 := Below.grown ((hbel.alloc (by exact hbel.size) _).alloc (by have := hbel.size; simp; omega) _) hgrow (by have := hbel.size; simp; omega) (fun k hk => (hown.lt k hk).1))
      go_roundw
      case rel => exact ⟨k + 1, by omega, by go_num, by rw [HS.out]; exact hown4, hbel4⟩
      case measure => simp [intOf]; omega
    · obtain rfl : k = 64 := by omega
      have hml : manyL.length = 64 := by simp [manyL]
      have htk : manyL.take 64 = manyL := by rw [← hml, List.take_length]
      rw [htk] at hown
      have hr1 : Rd wr u1 manyL := rd_own (by simpa [hml] using hown)
      obtain ⟨a1, c1, hu1, hcc1, hcm1, _⟩ := hr1
      rw [hml] at hu1
      subst hu1
      clear hcc1 hcm1
      have hR1 : Rd wr (.slice a1 64 c1) manyL := by
        have := rd_own (w := wr) (base := w.heap.size) (v := .slice a1 64 c1) (ps := manyL) (by rw [hml]; exact hown)
        exact this
      have hlenM : ∀ p ∈ manyL, p.length ≤ maxLen := by
        intro p hp
        obtain ⟨i, _, rfl⟩ := List.mem_map.1 hp
        show 3 ≤ _
        unfold maxLen; decide
      have HLM : Hid (∀ p ∈ manyL, p.length ≤ maxLen) := hlenM
      clear hlenM
      rename World => w1
      go_wp2_with fail
      refine (new_any _ manyL w1 hR1 (by rw [hml]; decide) HLM.out).mono ?_
      rintro e w2 ⟨hb2, ⟨_, pb, mb, _, _, rfl, hM2⟩ | ⟨n, k, h0, _⟩⟩
      rotate_left
      · rw [manyL_ok] at h0; cases h0
      have hB2 := hbel.trans (hb2.mono hbel.size)
      have cc := copy_any _ manyL w2 (hR1.below hb2) (by rw [hml]; decide)
      rw [hml] at cc
      go_wp2_with fail
      refine cc.mono ?_
      rintro e w3 ⟨v3, rfl, hown3, hb3⟩
      have hB3 := hB2.trans (hb3.mono hB2.size)
      have hM3 := hM2.kept hb3
      go_wp2_with (at_builtin; refine wpList_append_own _ rfl _ _ 26 rfl w2.heap.size 9 i0 (.string ⟨#[]⟩) 1 16 Tryd.underlying26 hi hz0 hz1 hz2 rfl (by decide) _ _ _ rfl (hown3.alloc _) ⟨w3.heap.size, 0, none⟩ 1 1 [.string ⟨#[122, 122]⟩] rfl rfl (cell_one_new _ _ _) (by simp [Value.oneCell']) (by unfold maxLen; omega) (by omega) (by have := hb3.size; simp; omega) ?_; intro v4 w4 hown4 hgrow4 _; have hb4 : Below w2.heap.size w2 w4 := Below.grown (hb3.alloc (by exact hb3.size) _) hgrow4 (by have := hb3.size; simp; omega) (fun k hk => (hown3.lt k hk).1); have hM4 := hM2.kept hb4; have hB4 := hB2.trans (hb4.mono hB2.size); have hR4 : Rd w4 v4 (manyL ++ [[122, 122]]) := rd_own (by simpa [hml, txt, B] using hown4))
      refine (new_many v4 (manyL ++ [[122, 122]]) w4 hR4 (by rw [List.length_append, hml]; decide)).mono ?_
      rintro e w5 ⟨rfl, hq5⟩
      subst w5
      have ca := all_s pb mb manyL w4 hM4
      rw [hml] at ca
      have e64 : allS 64 = 18446744073709551615 := by decide
      rw [e64] at ca
      have cpl : Calls Tryd.prog 10 #[noV 5, .int .i64 5] w4 fun e w' => e = .returned (.bool true) ∧ Below w4.heap.size w4 w' := plain_no 5 5 (by decide) (by decide) w4 (hE.below hB4)
      unfold noV at cpl ⊢
      go_wp2_with fail
      refine ca.mono ?_
      rintro e w5 ⟨rfl, hq5⟩
      subst w5
      go_wp2_with fail
      refine cpl.mono ?_
      rintro e w5 ⟨rfl, hb5⟩
      have hM5 := hM4.kept hb5
      have hB5 := hB4.trans (hb5.mono hB4.size)
      have e4 : (⟨#[32, 32, 32, 32]⟩ : ByteArray) = B (blk 4) := rfl
      clear hown hown3 hown4 hR1 hR4 hM2 hM3 hM4 hgrow4 cc ca cpl hb4 hb3 hb2
      go_wp2
      go_loopw [7] (fun tv wr => ∃ m n : Nat, m ≤ 10 ∧ Hid (n = 4 * 2 ^ m) ∧ tv = .string (B (blk n)) ∧ wr = w5) (fun tv _ => 4096 - strL tv)
      case atStart => exact ⟨0, 4, by omega, rfl, rfl, rfl⟩
      case round =>
        obtain ⟨m, n, hm, hn, rfl, hww⟩ := hrel
        subst wr
        have hsz : (B (blk n)).size = n := by show (blk n).length = n; simp [blk]
        by_cases hp : n < 4096
        · have hn0 : 4 ≤ n := by rw [hn.out]; have : 0 < 2 ^ m := Nat.pow_pos (by decide); omega
          have hm2 : m < 10 := by
            rcases Nat.lt_or_ge m 10 with h | h
            · exact h
            · obtain rfl : m = 10 := by omega
              have := hn.out; simp at this; omega
          have HN : Hid (n + n = 4 * 2 ^ (m + 1)) := by
            show _ = _
            rw [hn.out, Nat.pow_succ]; omega
          have hcat := blk_cat n n
          have hsz2 : (B (blk (n + n))).size = n + n := by show (blk (n + n)).length = _; simp [blk]
          go_wp2_with (first | (simp only [hcat]) | fail)
          go_roundw
          case rel => exact ⟨m + 1, n + n, by omega, HN, rfl, trivial⟩
          case measure => simp only [strL, hsz, hsz2]; omega
        · have hm2 : n = 4096 := by
            have h1 := hn.out
            have h2 : 2 ^ m ≤ 2 ^ 10 := Nat.pow_le_pow_right (by decide) hm
            have e10 : (2 : Nat) ^ 10 = 1024 := by decide
            omega
          subst hm2
          have cp := parse_s pb mb manyL (blk 4096) w5 hM5 (by simp [blk])
          have ep : parseG manyL 0 (wordsL 0 (blk 4096)) = (0, 0, 0) := by rw [blk_words]; rfl
          rw [ep] at cp
          have e0 : errP 0 0 = .nilIface := rfl
          rw [e0] at cp
          have hcat : B (blk 4096) ++ ⟨#[32]⟩ = B (blk 4097) := blk_cat 4096 1
          have CL : Hid (∀ w', Mp w' pb mb manyL → Calls Tryd.prog 6 #[.pointer (some ⟨pb, 0, none⟩), .string (B (blk 4097))] w' fun e w'' => e = .returned (.tuple #[Bt.st 0, noV 3]) ∧ Below w'.heap.size w' w'') := fun w' h => parse_long pb mb manyL (blk 4097) w' h (by simp [blk]) (by simp [blk, maxLen])
          have CN : Hid (∀ w', Calls Tryd.prog 9 #[.slice none 0 0] w' fun e w'' => Below w'.heap.size w' w'' ∧ ((newG [] [] = none ∧ ∃ pb mb, w'.heap.size ≤ pb ∧ w'.heap.size ≤ mb ∧ e = .returned (.tuple #[.pointer (some ⟨pb, 0, none⟩), .nilIface]) ∧ Mp w'' pb mb []) ∨ ∃ n k, newG [] [] = some (n, k) ∧ e = .returned (.tuple #[.pointer none, atV n k]))) := fun w' => new_any (.slice none 0 0) [] w' ⟨none, 0, rfl, Nat.le_refl _, by unfold maxLen; omega, fun h => by simp at h⟩ (by decide) (by simp)
          unfold noV at CL
          generalize B (blk 4097) = b97 at *
          generalize B (blk 4096) = b96 at *
          clear hn ep
          go_wp2_with fail
          refine cp.mono ?_
          rintro e w6 ⟨rfl, hb6⟩
          have hM6 := hM5.kept hb6
          have hB6 := hB5.trans (hb6.mono hB5.size)
          go_wp2_with (first | (simp only [hcat]) | fail)
          refine (CL.out w6 hM6).mono ?_
          rintro e w7 ⟨rfl, hb7⟩
          have hB7 := hB6.trans (hb7.mono hB6.size)
          go_wp2_with fail
          refine (CN.out w7).mono ?_
          rintro e w8 ⟨hb8, ⟨_, p2, m2, _, _, rfl, hM8⟩ | ⟨n', k', h0, _⟩⟩
          rotate_left
          · cases h0
          have hB8 := hB7.trans (hb8.mono hB7.size)
          have cs := parse_s p2 m2 [] [42] w8 hM8 (by decide)
          have es : parseG [] 0 (wordsL 0 [42]) = (0, 0, 0) := by decide
          rw [es, e0] at cs
          go_wp2_with fail
          refine cs.mono ?_
          rintro e w9 ⟨rfl, hb9⟩
          have hB9 := hB8.trans (hb9.mono hB8.size)
          have cpl : Calls Tryd.prog 10 #[noV 3, .int .i64 3] w9 fun e w' => e = .returned (.bool true) ∧ Below w9.heap.size w9 w' := plain_no 3 3 (by decide) (by decide) w9 (hE.below hB9)
          unfold noV at cpl
          go_wp2_with fail
          refine cpl.mono ?_
          rintro e w10 ⟨rfl, hb10⟩
          go_wp2
          go_ret
          exact ⟨rfl, hB9.trans (hb10.mono hB9.size)⟩
end Sc
end Go.Proofs.YtmgddocninihoabDoor
