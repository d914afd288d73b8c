/- The walk of ScopeJoined: two texts with a blank between. -/
import Derived.Test.YtmgddocninihoaaDoorBack
import Derived.Test.YtmgddocninihoaaDoorPlace
namespace Go.Proofs.YtmgddocninihoaaDoor
set_option linter.ambiguousOpen false
open Go.RowKit Nm Er
namespace Sc
set_option linter.unusedSimpArgs false
set_option linter.unusedVariables false

theorem hb_append (a b : List UInt8) : hb (a ++ 32 :: b) = hb a := by
  induction a with
  | nil => simp [hb]
  | cons c a ih =>
    unfold hb at ih ⊢
    by_cases h : c = 32
    · subst h; simp
    · have : (c != 32) = true := by simpa using h
      simp only [List.cons_append, List.takeWhile_cons, this, if_true, ih]

theorem words_append : ∀ (n : Nat) (a b : List UInt8) (k : Nat), a.length ≤ n → wordsL k (a ++ 32 :: b) = wordsL k a ++ wordsL (k + a.length + 1) b := by
  intro n
  induction n with
  | zero =>
    intro a b k h
    obtain rfl : a = [] := List.length_eq_zero_iff.1 (by omega)
    rw [wordsL_nil, List.nil_append, wordsL_step k _ (by simp)]
    simp [hb]
  | succ n ih =>
    intro a b k h
    by_cases ha : a = []
    · subst ha
      rw [wordsL_nil, List.nil_append, wordsL_step k _ (by simp)]
      simp [hb]
    · have hbl := hb_len a
      rw [wordsL_step k (a ++ 32 :: b) (by simp), wordsL_step k a ha, hb_append]
      rcases Nat.lt_or_ge (hb a).length a.length with hlt | hge
      · have e1 : (a ++ 32 :: b).drop ((hb a).length + 1) = a.drop ((hb a).length + 1) ++ 32 :: b := List.drop_append_of_le_length (by omega)
        rw [e1, ih _ _ _ (by rw [List.length_drop]; omega), List.append_assoc]
        congr 3
        rw [List.length_drop]; omega
      · have e0 : (hb a).length = a.length := by omega
        have e1 : (a ++ 32 :: b).drop ((hb a).length + 1) = b := by rw [e0, List.drop_append]; simp
        have e2 : a.drop ((hb a).length + 1) = [] := List.drop_eq_nil_of_le (by omega)
        rw [e1, e2, wordsL_nil, List.append_nil, e0]

theorem words_shift : ∀ (n : Nat) (t : List UInt8) (k j : Nat), t.length ≤ n → wordsL (k + j) t = (wordsL j t).map (fun x => (k + x.1, x.2)) := by
  intro n
  induction n with
  | zero =>
    intro t k j h
    obtain rfl : t = [] := List.length_eq_zero_iff.1 (by omega)
    simp [wordsL_nil]
  | succ n ih =>
    intro t k j h
    by_cases ht : t = []
    · subst ht; simp [wordsL_nil]
    · have h0 := List.length_pos_iff.2 ht
      rw [wordsL_step (k + j) t ht, wordsL_step j t ht, List.map_append]
      rw [show k + j + (hb t).length + 1 = k + (j + (hb t).length + 1) by omega, ih _ k _ (by rw [List.length_drop]; omega)]
      congr 1
      split <;> simp

theorem parseG_append (l : List (List UInt8)) : ∀ (a b : List (Nat × List UInt8)) (s : Nat), parseG l s (a ++ b) = if (parseG l s a).2.1 = 0 then parseG l (parseG l s a).1 b else parseG l s a
  | [], b, s => by simp [parseG]
  | x :: a, b, s => by
    simp only [List.cons_append, parseG]
    split
    · exact parseG_append l a b _
    · rename_i h
      simp [h]

theorem parseG_shift (l : List (List UInt8)) (k : Nat) : ∀ (a : List (Nat × List UInt8)) (s : Nat), parseG l s (a.map (fun x => (k + x.1, x.2))) = if (parseG l s a).2.1 = 0 then parseG l s a else (0, (parseG l s a).2.1, k + (parseG l s a).2.2)
  | [], s => by simp [parseG]
  | x :: a, s => by
    simp only [List.map_cons, parseG]
    split
    · exact parseG_shift l k a _
    · rename_i h
      simp [h]

theorem parseG_or (l : List (List UInt8)) : ∀ (a : List (Nat × List UInt8)) (s : Nat), parseG l s a = if (parseG l 0 a).2.1 = 0 then (s ||| (parseG l 0 a).1, 0, 0) else parseG l 0 a
  | [], s => by simp [parseG]
  | x :: a, s => by
    simp only [parseG]
    split
    · rw [parseG_or l a (s ||| (readG l x.2).1), parseG_or l a (0 ||| (readG l x.2).1)]
      split
      · simp [Nat.or_assoc]
      · rfl
    · rename_i h
      simp [h]

/-- Two texts with a blank between. -/
theorem parse_joined (l : List (List UInt8)) (a b : List UInt8) :
    parseG l 0 (wordsL 0 (a ++ 32 :: b)) = if (parseG l 0 (wordsL 0 a)).2.1 = 0 then (if (parseG l 0 (wordsL 0 b)).2.1 = 0 then ((parseG l 0 (wordsL 0 a)).1 ||| (parseG l 0 (wordsL 0 b)).1, 0, 0) else (0, (parseG l 0 (wordsL 0 b)).2.1, a.length + 1 + (parseG l 0 (wordsL 0 b)).2.2)) else parseG l 0 (wordsL 0 a) := by
  rw [words_append a.length a b 0 (Nat.le_refl _), parseG_append]
  split
  · rw [show 0 + a.length + 1 = (a.length + 1) + 0 by omega, words_shift b.length b (a.length + 1) 0 (Nat.le_refl _), parseG_shift, parseG_or l (wordsL 0 b) (parseG l 0 (wordsL 0 a)).1]
    by_cases h : (parseG l 0 (wordsL 0 b)).2.1 = 0
    · simp [h]
    · simp [h]
  · rfl

theorem parseG_place (l : List (List UInt8)) : ∀ (r : List (Nat × List UInt8)) (s m : Nat), (∀ x ∈ r, x.1 ≤ m) → (parseG l s r).2.2 ≤ m
  | [], s, m, _ => by simp [parseG]
  | x :: r, s, m, h => by
    simp only [parseG]
    split
    · exact parseG_place l r _ m (fun y hy => h y (by simp [hy]))
    · exact h x (by simp)
theorem parse_place (l : List (List UInt8)) (t : List UInt8) : (parseG l 0 (wordsL 0 t)).2.2 ≤ t.length :=
  parseG_place l _ 0 _ (fun x hx => by have := wordsN_len _ _ _ x hx; omega)

theorem bytes_cat (a b : List UInt8) : B a ++ ⟨#[32]⟩ ++ B b = B (a ++ 32 :: b) := by
  apply ByteArray.ext
  simp [B]

set_option maxRecDepth 1000000 in
set_option maxHeartbeats 8000000 in
theorem scopeJoined_walk (v : Value) (l : List (List UInt8)) (a b : List UInt8) (w : World) (hR : Rd w v l) (hlen : ∀ p ∈ l, p.length ≤ maxLen) (ha : a.length ≤ maxLen) (hb0 : b.length ≤ maxLen) (hT : Bt.Tab w) (h1 : 1 < w.heap.size) (hE : Handle w) :
    Calls Tryd.prog 7 #[v, .string (B a), .string (B b)] w fun e w' => e = .returned (.bool true) ∧ Below w.heap.size w w' := by
  have HLEN : Hid (∀ p ∈ l, p.length ≤ maxLen) := hlen
  clear hlen
  have hsa : (B a).size = a.length := rfl
  have hsb : (B b).size = b.length := rfl
  unfold maxLen at ha hb0
  go_enter Tryd.func7, Tryd.ntmps7
  go_wp2_with fail
  refine (works_any w hT h1).mono ?_
  rintro e w1 ⟨rfl, hb1⟩
  go_wp2_with fail
  by_cases hl : 64 < l.length
  · refine (new_many v l w1 (hR.below hb1) hl).mono ?_
    rintro e w2 ⟨rfl, rfl⟩
    unfold noV
    go_wp2
    go_ret
    exact ⟨rfl, hb1⟩
  refine (new_any v l w1 (hR.below hb1) (by omega) HLEN.out).mono ?_
  rintro e w2 ⟨hb2, ⟨_, pb, mb, _, _, rfl, hM⟩ | ⟨n, k, _, rfl⟩⟩
  rotate_left
  · unfold atV
    go_wp2
    go_ret
    exact ⟨rfl, hb1.trans (hb2.mono hb1.size)⟩
  have hB2 := hb1.trans (hb2.mono hb1.size)
  clear hb2 hb1 hl
  have h64 := hM.most
  by_cases hla : 2000 < a.length
  · go_wp2
    go_ret
    exact ⟨rfl, hB2⟩
  by_cases hlb : 2000 < b.length
  · go_wp2
    go_ret
    exact ⟨rfl, hB2⟩
  have hcat := bytes_cat a b
  have ca := parse_s pb mb l a w2 hM (by omega)
  have HJ : Hid (parseG l 0 (wordsL 0 (a ++ 32 :: b)) = if (parseG l 0 (wordsL 0 a)).2.1 = 0 then (if (parseG l 0 (wordsL 0 b)).2.1 = 0 then ((parseG l 0 (wordsL 0 a)).1 ||| (parseG l 0 (wordsL 0 b)).1, 0, 0) else (0, (parseG l 0 (wordsL 0 b)).2.1, a.length + 1 + (parseG l 0 (wordsL 0 b)).2.2)) else parseG l 0 (wordsL 0 a)) := parse_joined l a b
  have hpa := parse_place l a
  have hpb := parse_place l b
  have hna := parseG_no l (wordsL 0 a) 0
  have hnb := parseG_no l (wordsL 0 b) 0
  have hxa := parseG_lt l h64 (wordsL 0 a) 0 (by decide)
  have hxb := parseG_lt l h64 (wordsL 0 b) 0 (by decide)
  have CB : Hid (∀ w3, Mp w3 pb mb l → Calls Tryd.prog 20 #[.pointer (some ⟨pb, 0, none⟩), .string (B b)] w3 fun e w' => e = .returned (.tuple #[Bt.st (parseG l 0 (wordsL 0 b)).1, errP (parseG l 0 (wordsL 0 b)).2.1 (parseG l 0 (wordsL 0 b)).2.2]) ∧ Below w3.heap.size w3 w') := fun w3 h3 => parse_s pb mb l b w3 h3 (by omega)
  have CJ : Hid (∀ w3, Mp w3 pb mb l → Calls Tryd.prog 20 #[.pointer (some ⟨pb, 0, none⟩), .string (B (a ++ 32 :: b))] w3 fun e w' => e = .returned (.tuple #[Bt.st (parseG l 0 (wordsL 0 (a ++ 32 :: b))).1, errP (parseG l 0 (wordsL 0 (a ++ 32 :: b))).2.1 (parseG l 0 (wordsL 0 (a ++ 32 :: b))).2.2]) ∧ Below w3.heap.size w3 w') := fun w3 h3 => parse_s pb mb l (a ++ 32 :: b) w3 h3 (by simp; omega)
  rw [HJ.out] at CJ
  clear HJ
  generalize B (a ++ 32 :: b) = ab at *
  generalize parseG l 0 (wordsL 0 a) = pa at *
  generalize parseG l 0 (wordsL 0 b) = pb' at *
  obtain ⟨xa, na, ka⟩ := pa
  obtain ⟨xb, nb, kb⟩ := pb'
  simp only at *
  go_wp2_with fail
  refine ca.mono ?_
  rintro e w3 ⟨rfl, hb3⟩
  have hM3 := hM.kept hb3
  have hB3 := hB2.trans (hb3.mono hB2.size)
  go_wp2_with fail
  refine (CB.out _ hM3).mono ?_
  rintro e w4 ⟨rfl, hb4⟩
  have hM4 := hM3.kept hb4
  have hB4 := hB3.trans (hb4.mono hB3.size)
  go_wp2_with (first | (simp only [hcat]) | fail)
  refine (CJ.out _ hM4).mono ?_
  rintro e w5 ⟨rfl, hb5⟩
  have hB5 := hB4.trans (hb5.mono hB4.size)
  have hE5 := hE.below hB5
  clear CB CJ ca hM hM3 hM4
  by_cases hz : na = 0
  · subst hz
    simp only [if_true]
    have e0 : errP 0 ka = .nilIface := rfl
    rw [e0]
    clear hna
    by_cases hy : nb = 0
    · subst hy
      simp only [if_true]
      have e1 : errP 0 kb = .nilIface := rfl
      have e2 : errP 0 0 = .nilIface := rfl
      rw [e1, e2]
      have ko := u64_or_nat xa xb hxa hxb
      go_wp2_with (first | (simp only [ko]) | fail)
      go_ret
      exact ⟨rfl, hB5⟩
    · have hn2 : 1 ≤ nb ∧ nb ≤ 24 := by rcases hnb with h | ⟨_, h | h⟩ <;> omega
      rw [if_neg hy]
      have e1 : errP nb kb = atV nb kb := by simp [errP, hy]
      have e2 : errP nb (a.length + 1 + kb) = atV nb ((kb : Int) + (a.length : Int) + 1) := by
        unfold errP; rw [if_neg hy]
        have : ((a.length + 1 + kb : Nat) : Int) = (kb : Int) + (a.length : Int) + 1 := by omega
        rw [this]
      simp only
      rw [e1, e2]
      clear hnb hy e1 e2
      have cP := place_at nb kb hn2.1 hn2.2 w5 hE5
      have cN : Hid (∀ w1, Calls Tryd.prog 25 #[atV nb kb] w1 fun e w' => e = .returned (.int .i64 nb) ∧ Below w1.heap.size w1 w') := fun w1 => num_at nb kb hn2.1 hn2.2 w1
      have cA : Hid (∀ w1, Handle w1 → Calls Tryd.prog 27 #[atV nb ((kb : Int) + (a.length : Int) + 1), .int .i64 nb, .int .i64 ((kb : Int) + (a.length : Int) + 1)] w1 fun e w' => e = .returned (.bool true) ∧ Below w1.heap.size w1 w') := fun w1 h => at_at nb _ hn2.1 hn2.2 w1 h
      unfold atV at cP cN cA ⊢
      go_wp2_with fail
      refine cP.mono ?_
      rintro e w6 ⟨rfl, hb6⟩
      have hB6 := Er.below_then hB5 hb6
      go_wp2_with fail
      refine (cN.out _).mono ?_
      rintro e w7 ⟨rfl, hb7⟩
      have hB7 := Er.below_then hB6 hb7
      go_wp2_with fail
      refine (cA.out _ (hE.below hB7)).mono ?_
      rintro e w8 ⟨rfl, hb8⟩
      go_wp2
      go_ret
      exact ⟨rfl, Er.below_then hB7 hb8⟩
  · have hn2 : xa = 0 ∧ 1 ≤ na ∧ na ≤ 24 := by rcases hna with h | ⟨h0, h | h⟩ <;> omega
    obtain ⟨rfl, hn2⟩ := hn2
    rw [if_neg hz]
    have e1 : errP na ka = atV na ka := by simp [errP, hz]
    simp only
    rw [e1]
    clear hna hz e1
    have cP := place_at na ka hn2.1 hn2.2 w5 hE5
    have cN : Hid (∀ w1, Calls Tryd.prog 25 #[atV na ka] w1 fun e w' => e = .returned (.int .i64 na) ∧ Below w1.heap.size w1 w') := fun w1 => num_at na ka hn2.1 hn2.2 w1
    have cA : Hid (∀ w1, Handle w1 → Calls Tryd.prog 27 #[atV na ka, .int .i64 na, .int .i64 ka] w1 fun e w' => e = .returned (.bool true) ∧ Below w1.heap.size w1 w') := fun w1 h => at_at na _ hn2.1 hn2.2 w1 h
    unfold atV at cP cN cA ⊢
    go_wp2_with fail
    refine cP.mono ?_
    rintro e w6 ⟨rfl, hb6⟩
    have hB6 := Er.below_then hB5 hb6
    go_wp2_with fail
    refine (cN.out _).mono ?_
    rintro e w7 ⟨rfl, hb7⟩
    have hB7 := Er.below_then hB6 hb7
    go_wp2_with fail
    refine (cA.out _ (hE.below hB7)).mono ?_
    rintro e w8 ⟨rfl, hb8⟩
    go_wp2
    go_ret
    exact ⟨rfl, Er.below_then hB7 hb8⟩
end Sc
end Go.Proofs.YtmgddocninihoaaDoor
