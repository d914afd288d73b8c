/- Numbers with keys, in their order: plain facts. No program is named here. -/
import Derived.WalkKit
namespace Go.Proofs.Ythjdpfmnbmnbhaa
namespace Hh
set_option linter.unusedSimpArgs false
set_option linter.unusedVariables false

/-- A number with its key. -/
structure It where
  i : Int
  k : Int

/-- Is one ahead of another one? -/
def ahd (a b : It) : Bool := decide (a.k < b.k ∨ (a.k = b.k ∧ a.i < b.i))

theorem ahd_iff {a b : It} : ahd a b = true ↔ a.k < b.k ∨ (a.k = b.k ∧ a.i < b.i) := decide_eq_true_iff

theorem ahd_trans {a b c : It} (h : ahd a b = true) (h2 : ahd b c = true) : ahd a c = true := by
  rw [ahd_iff] at *
  omega

theorem ahd_asymm {a b : It} (h : ahd a b = true) : ¬ ahd b a = true := by
  rw [ahd_iff] at *
  omega

theorem ahd_total {a b : It} (h : a.i ≠ b.i) (h2 : ¬ ahd a b = true) : ahd b a = true := by
  rw [ahd_iff] at *
  omega

def dropH (L : List It) (i : Int) : List It := L.filter (fun x => !(x.i == i))

def insH (L : List It) (x : It) : List It := L.takeWhile (fun y => ahd y x) ++ x :: L.dropWhile (fun y => ahd y x)

def setH (L : List It) (i k : Int) : List It := insH (dropH L i) ⟨i, k⟩

def keyH (L : List It) (i : Int) : Option Int := (L.find? (fun x => x.i == i)).map (·.k)

def hasH (L : List It) (i : Int) : Bool := L.any (fun x => x.i == i)

/-- What holds of every heap for N numbers. -/
structure Hk (N : Int) (L : List It) : Prop where
  srt : L.Pairwise (fun a b => ahd a b = true)
  nd : L.Pairwise (fun a b => a.i ≠ b.i)
  rng : ∀ x ∈ L, 0 ≤ x.i ∧ x.i < N

theorem Hk.nil (N : Int) : Hk N [] := ⟨.nil, .nil, by simp⟩

theorem Hk.tail {N : Int} {x : It} {L : List It} (h : Hk N (x :: L)) : Hk N L := ⟨(List.pairwise_cons.1 h.srt).2, (List.pairwise_cons.1 h.nd).2, fun y hy => h.rng y (by simp [hy])⟩

theorem mem_dropH {L : List It} {i : Int} {x : It} : x ∈ dropH L i ↔ x ∈ L ∧ x.i ≠ i := by
  unfold dropH
  rw [List.mem_filter]
  simp

theorem Hk.drop {N : Int} {L : List It} (h : Hk N L) (i : Int) : Hk N (dropH L i) := ⟨h.srt.sublist List.filter_sublist, h.nd.sublist List.filter_sublist, fun x hx => h.rng x (mem_dropH.1 hx).1⟩

theorem mem_insH {L : List It} {x y : It} : y ∈ insH L x ↔ y = x ∨ y ∈ L := by
  unfold insH
  rw [List.mem_append, List.mem_cons]
  conv => rhs; rw [← List.takeWhile_append_dropWhile (p := fun y => ahd y x) (l := L), List.mem_append]
  constructor
  · rintro (h | h | h)
    · exact .inr (.inl h)
    · exact .inl h
    · exact .inr (.inr h)
  · rintro (h | h | h)
    · exact .inr (.inl h)
    · exact .inl h
    · exact .inr (.inr h)

theorem mem_take {L : List It} {x y : It} (h : y ∈ L.takeWhile (fun y => ahd y x)) : ahd y x = true := by
  induction L with
  | nil => simp at h
  | cons z L ih =>
    rw [List.takeWhile_cons] at h
    split at h
    · rename_i hz
      rcases List.mem_cons.1 h with rfl | h
      · exact hz
      · exact ih h
    · simp at h

/-- What comes behind the first that isn't ahead, isn't ahead either. -/
theorem mem_rest {L : List It} {x y : It} (hs : L.Pairwise (fun a b => ahd a b = true)) (h : y ∈ L.dropWhile (fun y => ahd y x)) : ¬ ahd y x = true := by
  induction L with
  | nil => simp at h
  | cons z L ih =>
    rw [List.dropWhile_cons] at h
    split at h
    · exact ih (List.pairwise_cons.1 hs).2 h
    · rename_i hz
      rcases List.mem_cons.1 h with rfl | h
      · exact hz
      · intro e
        exact hz (ahd_trans ((List.pairwise_cons.1 hs).1 y h) e)

theorem Hk.ins {N : Int} {L : List It} (h : Hk N L) {x : It} (hx : 0 ≤ x.i ∧ x.i < N) (hn : ∀ y ∈ L, y.i ≠ x.i) : Hk N (insH L x) := by
  have hsp := List.takeWhile_append_dropWhile (p := fun y => ahd y x) (l := L)
  have hs := h.srt
  have hd := h.nd
  rw [← hsp, List.pairwise_append] at hs hd
  have hm1 : ∀ y ∈ L.takeWhile (fun y => ahd y x), y ∈ L := fun y hy => (List.takeWhile_sublist _).subset hy
  have hm2 : ∀ y ∈ L.dropWhile (fun y => ahd y x), y ∈ L := fun y hy => (List.dropWhile_sublist _).subset hy
  refine ⟨?_, ?_, fun y hy => ?_⟩
  · unfold insH
    rw [List.pairwise_append, List.pairwise_cons]
    refine ⟨hs.1, ⟨fun y hy => ?_, hs.2.1⟩, fun y hy z hz => ?_⟩
    · exact ahd_total (hn y (hm2 y hy)) (mem_rest h.srt hy)
    · rcases List.mem_cons.1 hz with rfl | hz
      · exact mem_take hy
      · exact hs.2.2 y hy z hz
  · unfold insH
    rw [List.pairwise_append, List.pairwise_cons]
    refine ⟨hd.1, ⟨fun y hy => (hn y (hm2 y hy)).symm, hd.2.1⟩, fun y hy z hz => ?_⟩
    rcases List.mem_cons.1 hz with rfl | hz
    · exact hn y (hm1 y hy)
    · exact hd.2.2 y hy z hz
  · rcases mem_insH.1 hy with rfl | hy
    · exact hx
    · exact h.rng y hy

theorem Hk.set {N : Int} {L : List It} (h : Hk N L) {i : Int} (hi : 0 ≤ i ∧ i < N) (k : Int) : Hk N (setH L i k) := (h.drop i).ins (x := ⟨i, k⟩) hi (fun y hy => (mem_dropH.1 hy).2)

theorem mem_setH {L : List It} {i k : Int} {x : It} : x ∈ setH L i k ↔ x = ⟨i, k⟩ ∨ (x ∈ L ∧ x.i ≠ i) := by
  unfold setH
  rw [mem_insH, mem_dropH]

/-! ### Keys -/

theorem keyH_mem {N : Int} {L : List It} (h : Hk N L) {i k : Int} : keyH L i = some k ↔ (⟨i, k⟩ : It) ∈ L := by
  induction L with
  | nil => simp [keyH]
  | cons x L ih =>
    have ih := ih h.tail
    unfold keyH at ih ⊢
    rw [List.find?_cons]
    by_cases e : x.i = i
    · have hb : (x.i == i) = true := by simpa using e
      rw [hb]
      simp only [Option.map_some, Option.some.injEq, List.mem_cons]
      constructor
      · intro hk
        left
        cases x
        simp_all
      · rintro (hk | hk)
        · rw [← hk]
        · exact absurd e ((List.pairwise_cons.1 h.nd).1 _ hk)
    · have hb : (x.i == i) = false := by simpa using e
      rw [hb]
      simp only [List.mem_cons]
      rw [ih]
      constructor
      · exact .inr
      · rintro (hk | hk)
        · exact absurd (by rw [← hk]) e
        · exact hk

theorem has_key (L : List It) (i : Int) : hasH L i = (keyH L i).isSome := by
  unfold hasH keyH
  induction L with
  | nil => rfl
  | cons x L ih =>
    rw [List.any_cons, List.find?_cons]
    cases x.i == i
    · simpa using ih
    · rfl

theorem ext_mem {N : Int} : ∀ {L M : List It}, Hk N L → Hk N M → (∀ x, x ∈ L ↔ x ∈ M) → L = M
  | [], [], _, _, _ => rfl
  | [], y :: M, _, _, h => absurd ((h y).2 (by simp)) (by simp)
  | x :: L, [], _, _, h => absurd ((h x).1 (by simp)) (by simp)
  | x :: L, y :: M, hL, hM, h => by
    have hxL := (List.pairwise_cons.1 hL.srt).1
    have hyM := (List.pairwise_cons.1 hM.srt).1
    have exy : x = y := by
      rcases List.mem_cons.1 ((h x).1 (by simp)) with e | e
      · exact e
      · rcases List.mem_cons.1 ((h y).2 (by simp)) with e2 | e2
        · exact e2.symm
        · exact absurd (hxL y e2) (ahd_asymm (hyM x e))
    subst exy
    have hnx : ∀ {K : List It}, Hk N (x :: K) → x ∉ K := fun hK e => ahd_asymm ((List.pairwise_cons.1 hK.srt).1 x e) ((List.pairwise_cons.1 hK.srt).1 x e)
    rw [ext_mem hL.tail hM.tail (fun z => ?_)]
    constructor
    · intro hz
      rcases List.mem_cons.1 ((h z).1 (by simp [hz])) with e | e
      · exact absurd (e ▸ hz) (hnx hL)
      · exact e
    · intro hz
      rcases List.mem_cons.1 ((h z).2 (by simp [hz])) with e | e
      · exact absurd (e ▸ hz) (hnx hM)
      · exact e

theorem ext_key {N : Int} {L M : List It} (hL : Hk N L) (hM : Hk N M) (h : ∀ i, keyH L i = keyH M i) : L = M :=
  ext_mem hL hM (fun ⟨i, k⟩ => by rw [← keyH_mem hL, ← keyH_mem hM, h i])

theorem key_set {N : Int} {L : List It} (h : Hk N L) {i : Int} (hi : 0 ≤ i ∧ i < N) (k j : Int) : keyH (setH L i k) j = if j = i then some k else keyH L j := by
  apply Option.ext
  intro c
  rw [keyH_mem (h.set hi k), mem_setH]
  by_cases e : j = i
  · subst e
    rw [if_pos rfl]
    simp only [It.mk.injEq, true_and, ne_eq, not_true_eq_false, and_false, or_false, Option.some.injEq]
    exact eq_comm
  · rw [if_neg e, keyH_mem h]
    simp [e]

theorem key_drop {N : Int} {L : List It} (h : Hk N L) (i j : Int) : keyH (dropH L i) j = if j = i then none else keyH L j := by
  apply Option.ext
  intro c
  rw [keyH_mem (h.drop i), mem_dropH]
  by_cases e : j = i
  · subst e
    simp
  · rw [if_neg e, keyH_mem h]
    simp [e]

/-- A number that is set and dropped again. -/
theorem set_drop {N : Int} {L : List It} (h : Hk N L) {i : Int} (hi : 0 ≤ i ∧ i < N) (k : Int) (hn : keyH L i = none) : dropH (setH L i k) i = L := by
  refine ext_key ((h.set hi k).drop i) h (fun j => ?_)
  rw [key_drop (h.set hi k), key_set h hi]
  by_cases e : j = i
  · subst e
    rw [if_pos rfl, hn]
  · rw [if_neg e, if_neg e]

/-- The first one, dropped. -/
theorem drop_head {N : Int} {x : It} {L : List It} (h : Hk N (x :: L)) : dropH (x :: L) x.i = L := by
  unfold dropH
  rw [List.filter_cons]
  simp only [beq_self_eq_true, Bool.not_true, Bool.false_eq_true, if_false]
  exact List.filter_eq_self.2 (fun y hy => by
    have := (List.pairwise_cons.1 h.nd).1 y hy
    simp [Ne.symm this])

theorem drop_none {L : List It} {i : Int} (h : hasH L i = false) : dropH L i = L := by
  unfold hasH at h
  rw [List.any_eq_false] at h
  exact List.filter_eq_self.2 (fun y hy => by simpa using h y hy)

theorem few_of (n : Nat) : ∀ l : List Nat, l.Nodup → (∀ i ∈ l, i < n) → l.length ≤ n := by
  induction n with
  | zero =>
    intro l _ h
    cases l with
    | nil => exact Nat.le_refl _
    | cons a l => exact absurd (h a (by simp)) (by omega)
  | succ n ih =>
    intro l hn h
    have h1 := ih (l.erase n) (hn.erase n) (fun i hi => by
      have h2 := h i (List.mem_of_mem_erase hi)
      have h3 : i ≠ n := fun e => by
        subst e
        exact (List.Nodup.not_mem_erase hn) hi
      omega)
    have := List.length_erase (a := n) (l := l)
    split at this <;> omega

/-- Numbers that are unlike, of N. -/
theorem Hk.few {N : Nat} {L : List It} (h : Hk N L) : L.length ≤ N := by
  have h1 : (L.map (fun x => x.i.toNat)).Nodup := by
    rw [List.nodup_iff_pairwise_ne, List.pairwise_map]
    refine h.nd.imp_of_mem (fun ha hb hne => ?_)
    have := h.rng _ ha
    have := h.rng _ hb
    omega
  have h3 := few_of N _ h1 (fun n hn => by
    obtain ⟨x, hx, rfl⟩ := List.mem_map.1 hn
    have := h.rng x hx
    omega)
  simpa using h3

theorem drop_len (L : List It) (i : Int) : (dropH L i).length ≤ L.length := List.length_filter_le _ _

theorem ins_len (L : List It) (x : It) : (insH L x).length = L.length + 1 := by
  unfold insH
  have := congrArg List.length (List.takeWhile_append_dropWhile (p := fun y => ahd y x) (l := L))
  rw [List.length_append] at this
  rw [List.length_append, List.length_cons]
  omega

theorem set_len (L : List It) (i k : Int) : (setH L i k).length ≤ L.length + 1 := by
  unfold setH
  rw [ins_len]
  have := drop_len L i
  omega

/-- All, as a row: each number, and then its key. -/
def prs (L : List It) : List Int := L.flatMap (fun x => [x.i, x.k])

theorem prs_len (L : List It) : (prs L).length = 2 * L.length := by
  unfold prs
  induction L with
  | nil => rfl
  | cons x L ih =>
    rw [List.flatMap_cons, List.length_append, ih]
    simp
    omega

theorem prs_take (L : List It) (n : Nat) : (prs L).take (2 * n) = prs (L.take n) := by
  induction L generalizing n with
  | nil => simp [prs]
  | cons x L ih =>
    cases n with
    | zero => simp [prs]
    | succ n =>
      rw [List.take_succ_cons]
      unfold prs at ih ⊢
      rw [List.flatMap_cons, List.flatMap_cons, show 2 * (n + 1) = 2 * n + 1 + 1 by omega]
      simp only [List.cons_append, List.nil_append, List.take_succ_cons, ih]

theorem prs_snoc (L : List It) (x : It) : prs (L ++ [x]) = prs L ++ [x.i, x.k] := by
  unfold prs
  rw [List.flatMap_append]
  simp
end Hh
end Go.Proofs.Ythjdpfmnbmnbhaa
