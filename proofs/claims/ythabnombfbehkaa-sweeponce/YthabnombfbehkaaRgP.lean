/- RngP, RngQ, SwpP, in one text. -/
import Derived.Test.YthabnombfbehkaaBaM
/- Rings in plain words: what the document says of links; rows that are rings. -/
namespace Go.Proofs.Ythabnombfbehkaa
set_option linter.ambiguousOpen false
open Go.RowKit
namespace Rg
open An
set_option linter.unusedSimpArgs false
set_option linter.unusedVariables false

/-- The links of a slot. -/
def nx (S : List Slt) (i : Int) : Int := (S.getD i.toNat bare).next

def pv (S : List Slt) (i : Int) : Int := (S.getD i.toNat bare).prev

def well (S : List Slt) (i : Int) : Prop := there i ∧ there (pv S i) ∧ there (nx S i) ∧ nx S (pv S i) = i ∧ pv S (nx S i) = i

instance (S : List Slt) (i : Int) : Decidable (well S i) := by unfold well; infer_instance

def setN (S : List Slt) (i k : Int) : List Slt := S.set i.toNat { S.getD i.toNat bare with next := k }

def setP (S : List Slt) (i k : Int) : List Slt := S.set i.toNat { S.getD i.toNat bare with prev := k }

def link (S : List Slt) (i k : Int) : List Slt := setP (setN S i k) k i

/-- What a call answers: the last one, the error, its place, the slots. -/
structure Ans where
  ans : Int
  no : Nat
  pl : Int
  sl : List Slt

def push (S : List Slt) (last i : Int) : Ans :=
  if ¬ there i ∨ (last ≠ -1 ∧ ¬ there last) then ⟨0, 1, -1, S⟩
  else if last = -1 then ⟨i, 0, -1, link S i i⟩
  else if ¬ well S last then ⟨0, 24, last, S⟩
  else if i = last ∨ i = nx S last then ⟨0, 9, -1, S⟩
  else ⟨i, 0, -1, link (link S last i) i (nx S last)⟩

def drop (S : List Slt) (last i : Int) : Ans :=
  if ¬ there i ∨ ¬ there last then ⟨0, 1, -1, S⟩
  else if ¬ well S i then ⟨0, 24, i, S⟩
  else ⟨if i ≠ last then last else if pv S i = i then -1 else pv S i, 0, -1, setN (setP (link S (pv S i) (nx S i)) i (-1)) i (-1)⟩

def splice (S : List Slt) (one two : Int) : Ans :=
  if (one ≠ -1 ∧ ¬ there one) ∨ (two ≠ -1 ∧ ¬ there two) then ⟨0, 1, -1, S⟩
  else if one = -1 then ⟨two, 0, -1, S⟩
  else if two = -1 then ⟨one, 0, -1, S⟩
  else if one = two then ⟨0, 9, -1, S⟩
  else if ¬ well S one then ⟨0, 24, one, S⟩
  else if ¬ well S two then ⟨0, 24, two, S⟩
  else ⟨two, 0, -1, link (link S one (nx S two)) two (nx S one)⟩

/-- What is handed out. -/
def goes (S : List Slt) (last : Int) : Nat → Int → List Nat
  | 0, _ => []
  | f + 1, i => if there i then i.toNat :: (if i = last then [] else goes S last f (nx S i)) else []

def allL (S : List Slt) (last : Int) : List Nat := if there last then goes S last 32 (nx S last) else []

/-! ### How links are turned -/

theorem setN_len (S : List Slt) (i k : Int) : (setN S i k).length = S.length := by simp [setN]

theorem setP_len (S : List Slt) (i k : Int) : (setP S i k).length = S.length := by simp [setP]

theorem link_len (S : List Slt) (i k : Int) : (link S i k).length = S.length := by simp [link, setN_len, setP_len]

theorem push_len (S : List Slt) (l i : Int) : (push S l i).sl.length = S.length := by
  unfold push
  repeat' split
  all_goals simp [link_len]

theorem drop_len (S : List Slt) (l i : Int) : (drop S l i).sl.length = S.length := by
  unfold drop
  repeat' split
  all_goals simp [link_len, setN_len, setP_len]

theorem splice_len (S : List Slt) (l i : Int) : (splice S l i).sl.length = S.length := by
  unfold splice
  repeat' split
  all_goals simp [link_len]

section
variable {S : List Slt} (hl : S.length = 32)
include hl

theorem get_set (x : Slt) (i j : Nat) (hi : i < 32) : (S.set i x).getD j bare = if j = i then x else S.getD j bare := by
  rw [List.getD_eq_getElem?_getD, List.getD_eq_getElem?_getD, List.getElem?_set]
  by_cases h : j = i
  · subst h
    rw [if_pos rfl, if_pos rfl, if_pos (by omega)]
    rfl
  · rw [if_neg (fun e => h e.symm), if_neg h]

theorem nx_setN (i k j : Int) (hi : there i) (hj : there j) : nx (setN S i k) j = if j = i then k else nx S j := by
  unfold nx setN
  rw [get_set hl _ _ _ (by omega)]
  by_cases h : j = i
  · subst h
    rw [if_pos rfl, if_pos rfl]
  · rw [if_neg (by omega), if_neg h]

theorem pv_setN (i k j : Int) (hi : there i) (hj : there j) : pv (setN S i k) j = pv S j := by
  unfold pv setN
  rw [get_set hl _ _ _ (by omega)]
  by_cases h : j.toNat = i.toNat
  · rw [if_pos h, h]
  · rw [if_neg h]

theorem pv_setP (i k j : Int) (hi : there i) (hj : there j) : pv (setP S i k) j = if j = i then k else pv S j := by
  unfold pv setP
  rw [get_set hl _ _ _ (by omega)]
  by_cases h : j = i
  · subst h
    rw [if_pos rfl, if_pos rfl]
  · rw [if_neg (by omega), if_neg h]

theorem nx_setP (i k j : Int) (hi : there i) (hj : there j) : nx (setP S i k) j = nx S j := by
  unfold nx setP
  rw [get_set hl _ _ _ (by omega)]
  by_cases h : j.toNat = i.toNat
  · rw [if_pos h, h]
  · rw [if_neg h]

theorem nx_link (i k j : Int) (hi : there i) (hk : there k) (hj : there j) : nx (link S i k) j = if j = i then k else nx S j := by
  unfold link
  rw [nx_setP (by rw [setN_len]; exact hl) _ _ _ hk hj, nx_setN hl _ _ _ hi hj]

theorem pv_link (i k j : Int) (hi : there i) (hk : there k) (hj : there j) : pv (link S i k) j = if j = k then i else pv S j := by
  unfold link
  rw [pv_setP (by rw [setN_len]; exact hl) _ _ _ hk hj, pv_setN hl _ _ _ hi hj]
end

/-! ### Rows that are rings -/

/-- y comes behind x. -/
def Lk (S : List Slt) (x y : Nat) : Prop := nx S x = y ∧ pv S y = x

def Path (S : List Slt) : List Nat → Prop
  | [] => True
  | [_] => True
  | x :: y :: r => Lk S x y ∧ Path S (y :: r)

/-- The slots of l, in this order, are a ring. -/
structure Ring (S : List Slt) (l : List Nat) : Prop where
  nd : l.Nodup
  lt : ∀ i ∈ l, i < 32
  path : Path S l
  shut : ∀ z a, l.getLast? = some z → l.head? = some a → Lk S z a

/-- The last one, as calls have it. -/
def lastI (l : List Nat) : Int := match l.getLast? with
  | none => -1
  | some z => (z : Int)

theorem path_app (S : List Slt) : ∀ (l m : List Nat), Path S (l ++ m) ↔ Path S l ∧ Path S m ∧ ∀ z a, l.getLast? = some z → m.head? = some a → Lk S z a
  | [], m => by simp [Path]
  | [x], [] => by simp [Path]
  | [x], y :: m => by simp [Path]; exact and_comm
  | x :: y :: r, m => by
    have ih := path_app S (y :: r) m
    rw [show (x :: y :: r) ++ m = x :: y :: (r ++ m) from rfl, show Path S (x :: y :: (r ++ m)) = (Lk S x y ∧ Path S ((y :: r) ++ m)) from rfl, show Path S (x :: y :: r) = (Lk S x y ∧ Path S (y :: r)) from rfl, ih, List.getLast?_cons_cons]
    constructor
    · rintro ⟨h1, h2, h3, h4⟩
      exact ⟨⟨h1, h2⟩, h3, h4⟩
    · rintro ⟨⟨h1, h2⟩, h3, h4⟩
      exact ⟨h1, h2, h3, h4⟩

/-- What is turned elsewhere leaves a row as it was. -/
theorem path_of {S S' : List Slt} : ∀ {l : List Nat}, Path S l → (∀ x y, x ∈ l.dropLast → y ∈ l.tail → Lk S x y → Lk S' x y) → Path S' l
  | [], _, _ => trivial
  | [_], _, _ => trivial
  | x :: y :: r, h, hf => by
    unfold Path at h ⊢
    refine ⟨hf x y (by simp) (by simp) h.1, path_of h.2 (fun u v hu hv hk => hf u v ?_ ?_ hk)⟩
    · rw [List.dropLast_cons_cons]
      exact List.mem_cons_of_mem _ hu
    · simp only [List.tail_cons] at hv ⊢
      exact List.mem_cons_of_mem _ hv

theorem lk_link {S : List Slt} (hl : S.length = 32) {i k x y : Nat} (hi : i < 32) (hk : k < 32) (hx : x < 32) (hy : y < 32) (h : Lk S x y) (h1 : x ≠ i) (h2 : y ≠ k) : Lk (link S i k) x y := by
  refine ⟨?_, ?_⟩
  · rw [nx_link hl _ _ _ (by omega) (by omega) (by omega), if_neg (by omega)]
    exact h.1
  · rw [pv_link hl _ _ _ (by omega) (by omega) (by omega), if_neg (by omega)]
    exact h.2

theorem lk_new {S : List Slt} (hl : S.length = 32) {i k : Nat} (hi : i < 32) (hk : k < 32) : Lk (link S i k) i k := by
  refine ⟨?_, ?_⟩
  · rw [nx_link hl _ _ _ (by omega) (by omega) (by omega), if_pos rfl]
  · rw [pv_link hl _ _ _ (by omega) (by omega) (by omega), if_pos rfl]

theorem nodup_last {l : List Nat} (h : l.Nodup) {z : Nat} (hz : l.getLast? = some z) : z ∉ l.dropLast := by
  obtain ⟨m, rfl⟩ := List.getLast?_eq_some_iff.1 hz
  rw [List.dropLast_concat]
  intro hm
  exact (List.nodup_append.1 h).2.2 z hm z (by simp) rfl

theorem nodup_head {l : List Nat} (h : l.Nodup) {a : Nat} (ha : l.head? = some a) : a ∉ l.tail := by
  cases l with
  | nil => simp at ha
  | cons x r =>
    simp at ha
    subst ha
    exact (List.nodup_cons.1 h).1

theorem mem_last {l : List Nat} {z : Nat} (h : l.getLast? = some z) : z ∈ l := List.mem_of_getLast? h

theorem mem_head {l : List Nat} {a : Nat} (h : l.head? = some a) : a ∈ l := List.mem_of_mem_head? h

theorem last_app (l : List Nat) {m : List Nat} (h : m ≠ []) : (l ++ m).getLast? = m.getLast? := by
  rw [List.getLast?_append]
  cases hm : m.getLast? with
  | none => exact absurd (List.getLast?_eq_none_iff.1 hm) h
  | some z => rfl

theorem head_app (m : List Nat) {l : List Nat} (h : l ≠ []) : (l ++ m).head? = l.head? := by
  cases l with
  | nil => exact absurd rfl h
  | cons a r => rfl

theorem Ring.nil (S : List Slt) : Ring S [] := ⟨List.nodup_nil, by simp, trivial, by simp⟩

theorem Ring.few {S : List Slt} {l : List Nat} (h : Ring S l) : l.length ≤ 32 := nodup_few 32 l h.nd h.lt

/-- A ring may be told from any of its slots on. -/
theorem Ring.rot {S : List Slt} {u v : List Nat} (h : Ring S (u ++ v)) : Ring S (v ++ u) := by
  cases u with
  | nil => simpa using h
  | cons a u =>
    cases v with
    | nil => simpa using h
    | cons b v =>
      obtain ⟨h1, h2, h3⟩ := (path_app S _ _).1 h.path
      refine ⟨?_, fun i hi => h.lt i (by simp at hi ⊢; rcases hi with h | h | h | h <;> simp [h]), (path_app S _ _).2 ⟨h2, h1, fun z c hz hc => ?_⟩, fun z c hz hc => ?_⟩
      · exact (List.perm_append_comm.nodup_iff).1 h.nd
      · refine h.shut z c ?_ ?_
        · rw [last_app _ (by simp)]
          exact hz
        · simpa using hc
      · refine h3 z c ?_ ?_
        · rw [last_app _ (by simp)] at hz
          exact hz
        · simpa using hc

/-- Links that are turned outside of it leave a ring as it was. -/
theorem Ring.link_off {S : List Slt} (hl : S.length = 32) {l : List Nat} (h : Ring S l) {i k : Nat} (hi : i < 32) (hk : k < 32) (h1 : i ∉ l) (h2 : k ∉ l) : Ring (link S i k) l :=
  ⟨h.nd, h.lt, path_of h.path (fun x y hx hy hxy => lk_link hl hi hk (h.lt x (List.dropLast_subset _ hx)) (h.lt y (List.mem_of_mem_tail hy)) hxy (fun e => h1 (e ▸ List.dropLast_subset _ hx)) (fun e => h2 (e ▸ List.mem_of_mem_tail hy))),
    fun z a hz ha => lk_link hl hi hk (h.lt z (mem_last hz)) (h.lt a (mem_head ha)) (h.shut z a hz ha) (fun e => h1 (e ▸ mem_last hz)) (fun e => h2 (e ▸ mem_head ha))⟩

/-- Two rings and the two links that put them together. -/
theorem Ring.join {S : List Slt} (hl : S.length = 32) {l m : List Nat} (h : Ring S l) (k : Ring S m) (hd : ∀ x ∈ l, x ∉ m) {z a y b : Nat} (hz : l.getLast? = some z) (ha : l.head? = some a) (hy : m.getLast? = some y) (hb : m.head? = some b) :
    Ring (link (link S z b) y a) (l ++ m) := by
  have zl := mem_last hz
  have al := mem_head ha
  have ym := mem_last hy
  have bm := mem_head hb
  have hz3 := h.lt z zl
  have ha3 := h.lt a al
  have hy3 := k.lt y ym
  have hb3 := k.lt b bm
  have hl1 : (link S z b).length = 32 := by rw [link_len, hl]
  have hne : l ≠ [] := fun e => by rw [e] at hz; simp at hz
  have hme : m ≠ [] := fun e => by rw [e] at hy; simp at hy
  refine ⟨List.nodup_append.2 ⟨h.nd, k.nd, fun x hx y hy e => hd x hx (e ▸ hy)⟩, fun i hi => (List.mem_append.1 hi).elim (h.lt i) (k.lt i), (path_app _ _ _).2 ⟨?_, ?_, fun z' b' hz' hb' => ?_⟩, fun y' a' hy' ha' => ?_⟩
  · refine path_of h.path (fun u v hu hv huv => ?_)
    have hul := List.dropLast_subset _ hu
    have hvl := List.mem_of_mem_tail hv
    refine lk_link hl1 hy3 ha3 (h.lt u hul) (h.lt v hvl) (lk_link hl hz3 hb3 (h.lt u hul) (h.lt v hvl) huv (fun e => nodup_last h.nd hz (e ▸ hu)) (fun e => hd v hvl (e ▸ bm))) (fun e => hd u hul (e ▸ ym)) (fun e => nodup_head h.nd ha (e ▸ hv))
  · refine path_of k.path (fun u v hu hv huv => ?_)
    have hul := List.dropLast_subset _ hu
    have hvl := List.mem_of_mem_tail hv
    refine lk_link hl1 hy3 ha3 (k.lt u hul) (k.lt v hvl) (lk_link hl hz3 hb3 (k.lt u hul) (k.lt v hvl) huv (fun e => hd z zl (e ▸ hul)) (fun e => nodup_head k.nd hb (e ▸ hv))) (fun e => nodup_last k.nd hy (e ▸ hu)) (fun e => hd a al (e ▸ hvl))
  · obtain rfl : z = z' := Option.some.inj (hz.symm.trans hz')
    obtain rfl : b = b' := Option.some.inj (hb.symm.trans hb')
    exact lk_link hl1 hy3 ha3 hz3 hb3 (lk_new hl hz3 hb3) (fun e => hd z zl (e ▸ ym)) (fun e => hd a al (e ▸ bm))
  · rw [last_app _ hme] at hy'
    rw [head_app _ hne] at ha'
    obtain rfl : y = y' := Option.some.inj (hy.symm.trans hy')
    obtain rfl : a = a' := Option.some.inj (ha.symm.trans ha')
    exact lk_new hl1 hy3 ha3

theorem Ring.one {S : List Slt} (hl : S.length = 32) {i : Nat} (hi : i < 32) : Ring (link S i i) [i] :=
  ⟨by simp, by simpa using hi, trivial, fun z a hz ha => by
    simp at hz ha
    subst hz ha
    exact lk_new hl hi hi⟩

/-- Each slot has one ahead of it, and one behind it. -/
theorem Ring.sides {S : List Slt} {l : List Nat} (h : Ring S l) {i : Nat} (hi : i ∈ l) : ∃ p n, p ∈ l ∧ n ∈ l ∧ Lk S p i ∧ Lk S i n := by
  obtain ⟨u, v, rfl⟩ := List.append_of_mem hi
  have hr : Ring S (i :: (v ++ u)) := by
    have := h.rot
    simpa using this
  cases hm : v ++ u with
  | nil =>
    rw [hm] at hr
    have := hr.shut i i (by simp) (by simp)
    exact ⟨i, i, hi, hi, this, this⟩
  | cons n r =>
    rw [hm] at hr
    obtain ⟨p, hp⟩ : ∃ p, (n :: r).getLast? = some p := ⟨_, List.getLast?_eq_some_getLast (by simp)⟩
    have hin : ∀ x, x ∈ n :: r → x ∈ u ++ i :: v := fun x hx => by
      rw [← hm] at hx
      simp at hx ⊢
      rcases hx with h | h <;> simp [h]
    refine ⟨p, n, hin p (mem_last hp), hin n (by simp), hr.shut p i (by rw [List.getLast?_cons_cons]; exact hp) (by simp), ?_⟩
    have := hr.path
    unfold Path at this
    exact this.1

theorem Ring.well {S : List Slt} {l : List Nat} (h : Ring S l) {i : Nat} (hi : i ∈ l) : well S i := by
  obtain ⟨p, n, hp, hn, h1, h2⟩ := h.sides hi
  have hi3 := h.lt i hi
  have hp3 := h.lt p hp
  have hn3 := h.lt n hn
  unfold Rg.well
  rw [h1.2, h2.1]
  exact ⟨by omega, by omega, by omega, h1.1, h2.2⟩

theorem lastI_some {l : List Nat} {z : Nat} (h : l.getLast? = some z) : lastI l = z := by
  unfold lastI
  rw [h]

theorem lastI_nil : lastI [] = -1 := rfl

/-- A slot is pushed. -/
theorem Ring.push {S : List Slt} (hl : S.length = 32) {l : List Nat} (h : Ring S l) {i : Nat} (hi : i < 32) (hn : i ∉ l) : ∃ S', push S (lastI l) i = ⟨i, 0, -1, S'⟩ ∧ S'.length = 32 ∧ Ring S' (l ++ [i]) ∧ ∀ m, Ring S m → (∀ x ∈ m, x ∉ l ∧ x ≠ i) → Ring S' m := by
  cases hz : l.getLast? with
  | none =>
    obtain rfl := List.getLast?_eq_none_iff.1 hz
    refine ⟨link S i i, ?_, by rw [link_len, hl], Ring.one hl hi, fun m hm hd => hm.link_off hl hi hi (fun e => (hd i e).2 rfl) (fun e => (hd i e).2 rfl)⟩
    unfold Rg.push
    rw [lastI_nil, if_neg (by omega), if_pos rfl]
  | some z =>
    obtain ⟨a, ha⟩ : ∃ a, l.head? = some a := by
      cases l with
      | nil => simp at hz
      | cons a r => exact ⟨a, rfl⟩
    have zl := mem_last hz
    have al := mem_head ha
    have hz3 := h.lt z zl
    have ha3 := h.lt a al
    have hna : nx S z = a := (h.shut z a hz ha).1
    have hl1 : (link S z i).length = 32 := by rw [link_len, hl]
    refine ⟨link (link S z i) i a, ?_, by rw [link_len, hl1], ?_, fun m hm hd => ?_⟩
    · unfold Rg.push
      rw [lastI_some hz, if_neg (by omega), if_neg (by omega), if_neg (fun e => e (h.well zl)), hna, if_neg]
      rintro (e | e)
      · exact hn ((show i = z by omega) ▸ zl)
      · exact hn ((show i = a by omega) ▸ al)
    · have hS := h.nd
      refine ⟨List.nodup_append.2 ⟨h.nd, by simp, fun x hx y hy e => hn (by simp at hy; subst hy; exact e ▸ hx)⟩, fun j hj => (List.mem_append.1 hj).elim (h.lt j) (fun e => by simp at e; omega), (path_app _ _ _).2 ⟨?_, trivial, fun z' i' hz' hi' => ?_⟩, fun i' a' hi' ha' => ?_⟩
      · refine path_of h.path (fun u v hu hv huv => ?_)
        have hul := List.dropLast_subset _ hu
        have hvl := List.mem_of_mem_tail hv
        exact lk_link hl1 hi ha3 (h.lt u hul) (h.lt v hvl) (lk_link hl hz3 hi (h.lt u hul) (h.lt v hvl) huv (fun e => nodup_last h.nd hz (e ▸ hu)) (fun e => hn (e ▸ hvl))) (fun e => hn (e ▸ hul)) (fun e => nodup_head h.nd ha (e ▸ hv))
      · obtain rfl : z = z' := Option.some.inj (hz.symm.trans hz')
        simp at hi'
        subst hi'
        exact lk_link hl1 hi ha3 hz3 hi (lk_new hl hz3 hi) (fun e => hn (e ▸ zl)) (fun e => hn (e ▸ al))
      · have hne : l ≠ [] := fun e => by rw [e] at hz; simp at hz
        rw [head_app _ hne] at ha'
        obtain rfl : a = a' := Option.some.inj (ha.symm.trans ha')
        simp at hi'
        subst hi'
        exact lk_new hl1 hi ha3
    · exact (hm.link_off hl hz3 hi (fun e => (hd z e).1 zl) (fun e => (hd i e).2 rfl)).link_off hl1 hi ha3 (fun e => (hd i e).2 rfl) (fun e => (hd a e).1 al)
end Rg
end Go.Proofs.Ythabnombfbehkaa
/- Rings in plain words: a slot is taken out, two are put together, all are handed out. -/
namespace Go.Proofs.Ythabnombfbehkaa
set_option linter.ambiguousOpen false
open Go.RowKit
namespace Rg
open An
set_option linter.unusedSimpArgs false
set_option linter.unusedVariables false

theorem lk_set {S : List Slt} (hl : S.length = 32) {i x y : Nat} (c d : Int) (hi : i < 32) (hx : x < 32) (hy : y < 32) (h : Lk S x y) (h1 : x ≠ i) (h2 : y ≠ i) : Lk (setN (setP S i c) i d) x y := by
  have hl1 : (setP S i c).length = 32 := by rw [setP_len, hl]
  refine ⟨?_, ?_⟩
  · rw [nx_setN hl1 _ _ _ (by omega) (by omega), if_neg (by omega), nx_setP hl _ _ _ (by omega) (by omega)]
    exact h.1
  · rw [pv_setN hl1 _ _ _ (by omega) (by omega), pv_setP hl _ _ _ (by omega) (by omega), if_neg (by omega)]
    exact h.2

theorem Ring.set_off {S : List Slt} (hl : S.length = 32) {l : List Nat} (h : Ring S l) {i : Nat} (c d : Int) (hi : i < 32) (hn : i ∉ l) : Ring (setN (setP S i c) i d) l :=
  ⟨h.nd, h.lt, path_of h.path (fun x y hx hy hxy => lk_set hl c d hi (h.lt x (List.dropLast_subset _ hx)) (h.lt y (List.mem_of_mem_tail hy)) hxy (fun e => hn (e ▸ List.dropLast_subset _ hx)) (fun e => hn (e ▸ List.mem_of_mem_tail hy))),
    fun z a hz ha => lk_set hl c d hi (h.lt z (mem_last hz)) (h.lt a (mem_head ha)) (h.shut z a hz ha) (fun e => hn (e ▸ mem_last hz)) (fun e => hn (e ▸ mem_head ha))⟩

/-- The slot is told no more. -/
theorem unwell {S : List Slt} (hl : S.length = 32) {i : Nat} (hi : i < 32) (d : Int) : ¬ well (setN (setP S i (-1)) i d) i := by
  intro h
  have h1 := h.2.1
  rw [pv_setN (by rw [setP_len, hl]) _ _ _ (by omega) (by omega), pv_setP hl _ _ _ (by omega) (by omega), if_pos rfl] at h1
  omega

theorem unlinked {S : List Slt} (hl : S.length = 32) {i : Nat} (hi : i < 32) : pv (setN (setP S i (-1)) i (-1)) i = -1 ∧ nx (setN (setP S i (-1)) i (-1)) i = -1 := by
  refine ⟨?_, ?_⟩
  · rw [pv_setN (by rw [setP_len, hl]) _ _ _ (by omega) (by omega), pv_setP hl _ _ _ (by omega) (by omega), if_pos rfl]
  · rw [nx_setN (by rw [setP_len, hl]) _ _ _ (by omega) (by omega), if_pos rfl]

/-- A ring of a slot and of others, without it. -/
theorem Ring.cut {S : List Slt} (hl : S.length = 32) {i : Nat} {m : List Nat} (h : Ring S (i :: m)) : Ring (setN (setP (link S (pv S i) (nx S i)) i (-1)) i (-1)) m ∧ (m = [] → pv S i = i) ∧ (∀ p, m.getLast? = some p → pv S i = p) := by
  have hi := h.lt i (by simp)
  have hn : i ∉ m := (List.nodup_cons.1 h.nd).1
  cases m with
  | nil =>
    have := h.shut i i (by simp) (by simp)
    exact ⟨Ring.nil _, fun _ => this.2, by simp⟩
  | cons n r =>
    obtain ⟨p, hp⟩ : ∃ p, (n :: r).getLast? = some p := ⟨_, List.getLast?_eq_some_getLast (by simp)⟩
    have hnd := (List.nodup_cons.1 h.nd).2
    have hlt : ∀ x ∈ n :: r, x < 32 := fun x hx => h.lt x (List.mem_cons_of_mem _ hx)
    have hpi : Lk S p i := h.shut p i (by rw [List.getLast?_cons_cons]; exact hp) (by simp)
    have hpath : Lk S i n ∧ Path S (n :: r) := h.path
    have hp3 := hlt p (mem_last hp)
    have hn3 := hlt n (by simp)
    refine ⟨?_, by simp, fun q hq => ?_⟩
    · rw [hpi.2, hpath.1.1]
      have hR : Ring (link S p n) (n :: r) := by
        refine ⟨hnd, hlt, path_of hpath.2 (fun u v hu hv huv => ?_), fun z a hz ha => ?_⟩
        · have hul := List.dropLast_subset _ hu
          have hvl := List.mem_of_mem_tail hv
          exact lk_link hl hp3 hn3 (hlt u hul) (hlt v hvl) huv (fun e => nodup_last hnd hp (e ▸ hu)) (fun e => nodup_head hnd (a := n) rfl (e ▸ hv))
        · obtain rfl : p = z := Option.some.inj (hp.symm.trans hz)
          simp at ha
          subst ha
          exact lk_new hl hp3 hn3
      exact hR.set_off (by rw [link_len, hl]) _ _ hi hn
    · obtain rfl : p = q := Option.some.inj (hp.symm.trans hq)
      exact hpi.2

theorem Ring.drop {S : List Slt} (hl : S.length = 32) {u v : List Nat} {i : Nat} (h : Ring S (u ++ i :: v)) : ∃ S', drop S (lastI (u ++ i :: v)) i = ⟨lastI (u ++ v), 0, -1, S'⟩ ∧ S'.length = 32 ∧ Ring S' (u ++ v) ∧ ¬ Rg.well S' i ∧ (pv S' i = -1 ∧ nx S' i = -1) ∧ ∀ m, Ring S m → (∀ x ∈ m, x ∉ u ++ i :: v) → Ring S' m := by
  have hil : i ∈ u ++ i :: v := by simp
  have hi := h.lt i hil
  have hw := h.well hil
  have hr : Ring S (i :: (v ++ u)) := by
    have := h.rot
    simpa using this
  obtain ⟨h1, h2, h3⟩ := hr.cut hl
  have hll : (link S (pv S i) (nx S i)).length = 32 := by rw [link_len, hl]
  obtain ⟨z, hz⟩ : ∃ z, (u ++ i :: v).getLast? = some z := ⟨_, List.getLast?_eq_some_getLast (by simp)⟩
  have hz3 := h.lt z (mem_last hz)
  refine ⟨_, ?_, ?_, h1.rot, unwell hll hi _, unlinked hll hi, fun m hm hd => ?_⟩
  · unfold Rg.drop
    rw [lastI_some hz, if_neg (by omega), if_neg (fun e => e hw)]
    congr 1
    cases v with
    | nil =>
      have hzi : z = i := by simpa using hz.symm
      rw [if_neg (by omega)]
      cases u with
      | nil =>
        rw [if_pos (h2 rfl)]
        rfl
      | cons a u =>
        obtain ⟨p, hp⟩ : ∃ p, (a :: u).getLast? = some p := ⟨_, List.getLast?_eq_some_getLast (by simp)⟩
        have hpi := h3 p (by simpa using hp)
        have hne : p ≠ i := fun e => (List.nodup_append.1 h.nd).2.2 p (mem_last hp) i (by simp) e
        rw [if_neg (by omega), List.append_nil, lastI_some hp, hpi]
    | cons b v =>
      rw [last_app _ (by simp), List.getLast?_cons_cons] at hz
      have hne : z ≠ i := fun e => by
        have := (List.nodup_cons.1 (List.nodup_append.1 h.nd).2.1).1
        exact this (e ▸ mem_last hz)
      rw [if_pos (by omega)]
      exact (lastI_some (by rw [last_app _ (by simp)]; exact hz)).symm
  · rw [setN_len, setP_len, hll]
  · obtain ⟨p, n, hp, hn, q1, q2⟩ := h.sides hil
    rw [q1.2, q2.1]
    exact (hm.link_off hl (h.lt p hp) (h.lt n hn) (fun e => hd p e hp) (fun e => hd n e hn)).set_off (by rw [link_len, hl]) _ _ hi (fun e => hd i e hil)

theorem Ring.splice {S : List Slt} (hl : S.length = 32) {l m : List Nat} (h : Ring S l) (k : Ring S m) (hd : ∀ x ∈ l, x ∉ m) : ∃ S', splice S (lastI l) (lastI m) = ⟨lastI (l ++ m), 0, -1, S'⟩ ∧ S'.length = 32 ∧ Ring S' (l ++ m) := by
  cases hz : l.getLast? with
  | none =>
    obtain rfl := List.getLast?_eq_none_iff.1 hz
    refine ⟨S, ?_, hl, k⟩
    unfold Rg.splice
    rw [lastI_nil, List.nil_append]
    cases hy : m.getLast? with
    | none =>
      obtain rfl := List.getLast?_eq_none_iff.1 hy
      rfl
    | some y =>
      have := k.lt y (mem_last hy)
      rw [lastI_some hy, if_neg (by omega), if_pos rfl]
  | some z =>
    have hz3 := h.lt z (mem_last hz)
    cases hy : m.getLast? with
    | none =>
      obtain rfl := List.getLast?_eq_none_iff.1 hy
      refine ⟨S, ?_, hl, by simpa using h⟩
      unfold Rg.splice
      rw [lastI_nil, List.append_nil, lastI_some hz, if_neg (by omega), if_neg (by omega), if_pos rfl]
    | some y =>
      have hy3 := k.lt y (mem_last hy)
      obtain ⟨a, ha⟩ : ∃ a, l.head? = some a := by
        cases l with
        | nil => simp at hz
        | cons a r => exact ⟨a, rfl⟩
      obtain ⟨b, hb⟩ : ∃ b, m.head? = some b := by
        cases m with
        | nil => simp at hy
        | cons a r => exact ⟨a, rfl⟩
      have hme : m ≠ [] := fun e => by rw [e] at hy; simp at hy
      refine ⟨link (link S z b) y a, ?_, by rw [link_len, link_len, hl], h.join hl k hd hz ha hy hb⟩
      have hne : z ≠ y := fun e => hd z (mem_last hz) (e ▸ mem_last hy)
      unfold Rg.splice
      rw [lastI_some hz, lastI_some hy, lastI_some (by rw [last_app _ hme]; exact hy), if_neg (by omega), if_neg (by omega), if_neg (by omega), if_neg (by omega), if_neg (fun e => e (h.well (mem_last hz))), if_neg (fun e => e (k.well (mem_last hy))), (k.shut y b hy hb).1, (h.shut z a hz ha).1]

theorem goes_path {S : List Slt} {z : Nat} : ∀ (r : List Nat) (x f : Nat), Path S (x :: r) → (x :: r).Nodup → (∀ i ∈ x :: r, i < 32) → (x :: r).getLast? = some z → (x :: r).length ≤ f → goes S z f x = x :: r
  | [], x, 0, _, _, _, _, hf => by simp at hf
  | [], x, f + 1, _, _, hlt, hz, hf => by
    obtain rfl : x = z := by simpa using hz
    have := hlt x (by simp)
    unfold goes
    rw [if_pos (by omega), if_pos rfl]
    simp
  | y :: r, x, 0, _, _, _, _, hf => by simp at hf
  | y :: r, x, f + 1, hp, hn, hlt, hz, hf => by
    have hx := hlt x (by simp)
    have hp' : Lk S x y ∧ Path S (y :: r) := hp
    rw [List.getLast?_cons_cons] at hz
    have hne : x ≠ z := fun e => (List.nodup_cons.1 hn).1 (e ▸ mem_last hz)
    have ih := goes_path r y f hp'.2 (List.nodup_cons.1 hn).2 (fun i hi => hlt i (List.mem_cons_of_mem _ hi)) hz (by simp at hf ⊢; omega)
    unfold goes
    rw [if_pos (by omega), if_neg (by omega), hp'.1.1, ih]
    simp

theorem Ring.all {S : List Slt} {l : List Nat} (h : Ring S l) : allL S (lastI l) = l := by
  unfold allL
  cases hz : l.getLast? with
  | none =>
    obtain rfl := List.getLast?_eq_none_iff.1 hz
    rw [lastI_nil, if_neg (by omega)]
  | some z =>
    have hz3 := h.lt z (mem_last hz)
    cases l with
    | nil => simp at hz
    | cons a r =>
      rw [lastI_some hz, if_pos (by omega), (h.shut z a hz rfl).1]
      exact goes_path r a 32 h.path h.nd h.lt hz h.few

theorem goes_lt (S : List Slt) (last : Int) : ∀ (f : Nat) (i : Int), ∀ x ∈ goes S last f i, x < 32
  | 0, i, x, hx => by simp [goes] at hx
  | f + 1, i, x, hx => by
    unfold goes at hx
    split at hx
    · rename_i ht
      rcases List.mem_cons.1 hx with rfl | hx
      · omega
      · split at hx
        · simp at hx
        · exact goes_lt S last f _ x hx
    · simp at hx

theorem goes_len (S : List Slt) (last : Int) : ∀ (f : Nat) (i : Int), (goes S last f i).length ≤ f
  | 0, i => by simp [goes]
  | f + 1, i => by
    unfold goes
    split
    · simp only [List.length_cons]
      split
      · simp
      · have := goes_len S last f (nx S i)
        omega
    · simp

theorem allL_len (S : List Slt) (last : Int) : (allL S last).length ≤ 32 := by
  unfold allL
  split
  · exact goes_len S last 32 _
  · simp

theorem lastI_none (l : List Nat) : lastI l = -1 ↔ l = [] := by
  constructor
  · intro h
    cases hz : l.getLast? with
    | none => exact List.getLast?_eq_none_iff.1 hz
    | some z =>
      rw [lastI_some hz] at h
      omega
  · rintro rfl
    rfl
end Rg
end Go.Proofs.Ythabnombfbehkaa
/- Garbage in plain words. No program is named here. -/
namespace Go.Proofs.Ythabnombfbehkaa
set_option linter.ambiguousOpen false
open Go.RowKit
namespace Sw
open An Rg
set_option linter.unusedSimpArgs false
set_option linter.unusedVariables false

/-- What a slot holds. -/
def slG (S : List Slt) (i : Int) : Slt := S.getD i.toNat bare

/-- What Add answers: the error, its place; the slots, the last one. -/
structure GAns where
  no : Nat
  pl : Int
  sl : List Slt
  last : Int

def addG (S : List Slt) (l i : Int) : GAns :=
  if ¬ there i then ⟨1, -1, S, l⟩
  else if (slG S i).used = false then ⟨10, -1, S, l⟩
  else if (push S l i).no ≠ 0 then ⟨(push S l i).no, (push S l i).pl, (push S l i).sl, l⟩
  else ⟨0, -1, (push S l i).sl, (push S l i).ans⟩

/-- What Unit answers. -/
structure UAns where
  f : Nat
  ok : Bool
  sl : List Slt
  fr : List Nat
  last : Int

/-- Behind Splice; behind Drop. -/
def unit2 (S : List Slt) (fr : List Nat) (l f : Int) : UAns :=
  if (drop S l f).no ≠ 0 then ⟨0, false, (drop S l f).sl, fr, l⟩
  else if f.toNat ∈ fr then ⟨0, false, (drop S l f).sl, fr, (drop S l f).ans⟩
  else ⟨f.toNat, true, (drop S l f).sl.set f.toNat bare, f.toNat :: fr, (drop S l f).ans⟩

def unit1 (S : List Slt) (fr : List Nat) (l f : Int) : UAns :=
  if (splice S l (slG S f).kids).no ≠ 0 then ⟨0, false, (splice S l (slG S f).kids).sl, fr, l⟩
  else unit2 (splice S l (slG S f).kids).sl fr (splice S l (slG S f).kids).ans f

def unitG (S : List Slt) (fr : List Nat) (l : Int) : UAns :=
  if l = -1 ∨ ¬ there (nx S l) then ⟨0, false, S, fr, l⟩
  else unit1 S fr l (nx S l)

/-- A list, and those of another one that it has not. -/
def wit (l m : List Nat) : List Nat := m.foldl (fun l x => if x ∈ l then l else l ++ [x]) l

def goG (S : List Slt) : Nat → Nat → List Nat → List Nat
  | 0, _, l => l
  | f + 1, k, l => if k < l.length then goG S f (k + 1) (wit l (allL S (slG S (l.getD k 0 : Nat)).kids)) else l

def allG (S : List Slt) (l : Int) : List Nat := goG S 33 0 (wit [] (allL S l))

/-! ### Laws -/

theorem addG_len (S : List Slt) (l i : Int) : (addG S l i).sl.length = S.length := by
  unfold addG
  repeat' split
  all_goals simp [push_len]

theorem addG_no (S : List Slt) (l i : Int) : (addG S l i).no ≤ 24 ∧ (0 ≤ (addG S l i).pl → 1 ≤ (addG S l i).no) := by
  unfold addG
  have : (push S l i).no ≤ 24 ∧ (0 ≤ (push S l i).pl → 1 ≤ (push S l i).no) := by
    unfold push
    repeat' split
    all_goals simp
  repeat' split
  all_goals first | exact this | simp

theorem addG_pl (S : List Slt) (l i : Int) (h : (addG S l i).no = 0) : (addG S l i).pl = -1 := by
  unfold addG at h ⊢
  repeat' split at h
  all_goals simp_all

/-- The last one is a slot, or there is none. -/
def okL (l : Int) : Prop := l = -1 ∨ there l

theorem push_ok (S : List Slt) (l i : Int) (h : (push S l i).no = 0) : there (push S l i).ans := by
  unfold push at h ⊢
  split
  · rename_i h0
    rw [if_pos h0] at h
    simp at h
  · rename_i h0
    have ht : there i := by
      rcases Decidable.em (there i) with e | e
      · exact e
      · exact absurd (.inl e) h0
    rw [if_neg h0] at h
    repeat' split at h
    all_goals simp at h
    · rename_i h1
      rw [if_pos h1]
      exact ht
    · rename_i h1 h2 h3
      rw [if_neg h1, if_neg h2, if_neg h3]
      exact ht

theorem splice_ok (S : List Slt) (l k : Int) (h0 : there l) (h : (splice S l k).no = 0) : there (splice S l k).ans := by
  unfold splice at h ⊢
  split
  · rename_i h1
    rw [if_pos h1] at h
    simp at h
  · rename_i h1
    rw [if_neg h1] at h
    have hl : ¬ l = -1 := by omega
    rw [if_neg hl] at h ⊢
    by_cases hk : k = -1
    · rw [if_pos hk]
      exact h0
    · have ht : there k := by
        rcases Decidable.em (there k) with e | e
        · exact e
        · exact absurd (.inr ⟨hk, e⟩) h1
      rw [if_neg hk] at h ⊢
      repeat' split at h
      all_goals simp at h
      rename_i h2 h3 h4
      rw [if_neg h2, if_neg h3, if_neg h4]
      exact ht

theorem drop_ok (S : List Slt) (l i : Int) (h : (drop S l i).no = 0) : okL (drop S l i).ans := by
  unfold drop at h ⊢
  split
  · rename_i h1
    rw [if_pos h1] at h
    simp at h
  · rename_i h1
    rw [if_neg h1] at h
    have hl : there l := by
      rcases Decidable.em (there l) with e | e
      · exact e
      · exact absurd (.inr e) h1
    split
    · rename_i h2
      rw [if_pos h2] at h
      simp at h
    · rename_i h2
      have hw : well S i := by
        rcases Decidable.em (well S i) with e | e
        · exact e
        · exact absurd e h2
      show okL (if i ≠ l then l else if pv S i = i then -1 else pv S i)
      repeat' split
      · exact .inr hl
      · exact .inl rfl
      · exact .inr hw.2.1

theorem addG_ok (S : List Slt) (l i : Int) (h : okL l) : okL (addG S l i).last := by
  unfold addG
  repeat' split
  all_goals first | exact h | (rename_i h0; exact .inr (push_ok S l i (by simpa using h0)))

theorem unitG_ok (S : List Slt) (fr : List Nat) (l : Int) (h : okL l) : okL (unitG S fr l).last := by
  unfold unitG
  split
  · exact h
  · rename_i h1
    have hl : there l := by
      rcases h with e | e
      · exact absurd (.inl e) h1
      · exact e
    unfold unit1
    split
    · exact h
    · rename_i h2
      have h3 := splice_ok S l (slG S (nx S l)).kids hl (by simpa using h2)
      unfold unit2
      repeat' split
      · exact .inr h3
      all_goals (rename_i h4 _; exact drop_ok _ _ _ (by simpa using h4))

theorem unitG_len (S : List Slt) (fr : List Nat) (l : Int) : (unitG S fr l).sl.length = S.length := by
  unfold unitG unit1 unit2
  repeat' split
  all_goals simp [splice_len, drop_len]

/-- What is freed is no free one yet. -/
theorem unitG_fr (S : List Slt) (fr : List Nat) (l : Int) : (unitG S fr l).fr = fr ∨ ∃ f, f < 32 ∧ f ∉ fr ∧ (unitG S fr l).fr = f :: fr := by
  unfold unitG
  split
  · exact .inl rfl
  · rename_i h1
    have ht : there (nx S l) := by
      rcases Decidable.em (there (nx S l)) with h | h
      · exact h
      · exact absurd (.inr h) h1
    unfold unit1
    split
    · exact .inl rfl
    · unfold unit2
      repeat' split
      · exact .inl rfl
      · exact .inl rfl
      · rename_i h4
        exact .inr ⟨(nx S l).toNat, by omega, h4, rfl⟩

theorem unitG_f (S : List Slt) (fr : List Nat) (l : Int) : (unitG S fr l).f < 32 := by
  unfold unitG
  split
  · simp
  · rename_i h1
    have ht : there (nx S l) := by
      rcases Decidable.em (there (nx S l)) with h | h
      · exact h
      · exact absurd (.inr h) h1
    unfold unit1 unit2
    repeat' split
    all_goals simp
    omega

theorem wit_nd (m : List Nat) : ∀ l : List Nat, l.Nodup → (wit l m).Nodup := by
  induction m with
  | nil => exact fun l h => h
  | cons x m ih =>
    intro l h
    unfold wit at *
    rw [List.foldl_cons]
    refine ih _ ?_
    split
    · exact h
    · rename_i hx
      exact List.nodup_append.2 ⟨h, by simp, by intro a ha b hb; simp at hb; subst hb; exact fun e => hx (e ▸ ha)⟩

theorem wit_mem (m : List Nat) : ∀ l : List Nat, ∀ y, y ∈ wit l m ↔ y ∈ l ∨ y ∈ m := by
  induction m with
  | nil => intro l y; simp [wit]
  | cons x m ih =>
    intro l y
    unfold wit at *
    rw [List.foldl_cons, ih, List.mem_cons]
    split
    · rename_i hx
      constructor
      · rintro (h | h)
        · exact .inl h
        · exact .inr (.inr h)
      · rintro (h | rfl | h)
        · exact .inl h
        · exact .inl hx
        · exact .inr h
    · rw [List.mem_append, List.mem_singleton, or_assoc]

theorem goes_lt (S : List Slt) (l : Int) : ∀ (f : Nat) (i : Int), ∀ x ∈ goes S l f i, x < 32
  | 0, i, x, hx => by simp [goes] at hx
  | f + 1, i, x, hx => by
    unfold goes at hx
    split at hx
    · rename_i ht
      rcases List.mem_cons.1 hx with rfl | hx
      · omega
      · split at hx
        · simp at hx
        · exact goes_lt S l f _ x hx
    · simp at hx

theorem allL_lt (S : List Slt) (l : Int) : ∀ x ∈ allL S l, x < 32 := fun x hx => by
  unfold allL at hx
  split at hx
  · exact goes_lt S l 32 _ x hx
  · simp at hx

theorem goes_len (S : List Slt) (l : Int) : ∀ (f : Nat) (i : Int), (goes S l f i).length ≤ f
  | 0, i => by simp [goes]
  | f + 1, i => by
    unfold goes
    split
    · simp only [List.length_cons]
      split
      · simp
      · have := goes_len S l f (nx S i)
        omega
    · simp

theorem allL_len (S : List Slt) (l : Int) : (allL S l).length ≤ 32 := by
  unfold allL
  split
  · exact goes_len S l 32 _
  · simp

/-- What amid All is in the list. -/
structure Gl (l : List Nat) : Prop where
  nd : l.Nodup
  lt : ∀ x ∈ l, x < 32

theorem Gl.nil : Gl [] := ⟨by simp, by simp⟩

theorem Gl.len {l : List Nat} (h : Gl l) : l.length ≤ 32 := nodup_few 32 l h.nd h.lt

theorem Gl.wit {l m : List Nat} (h : Gl l) (hm : ∀ x ∈ m, x < 32) : Gl (wit l m) :=
  ⟨wit_nd m l h.nd, fun x hx => ((wit_mem m l x).1 hx).elim (h.lt x) (hm x)⟩

theorem goG_gl (S : List Slt) : ∀ (f k : Nat) (l : List Nat), Gl l → Gl (goG S f k l)
  | 0, k, l, h => h
  | f + 1, k, l, h => by
    unfold goG
    split
    · exact goG_gl S f (k + 1) _ (h.wit (allL_lt S _))
    · exact h

theorem allG_gl (S : List Slt) (l : Int) : Gl (allG S l) := goG_gl S 33 0 _ (Gl.nil.wit (allL_lt S l))

theorem wit_pre (m : List Nat) : ∀ l : List Nat, ∃ r, wit l m = l ++ r := by
  induction m with
  | nil => exact fun l => ⟨[], by simp [wit]⟩
  | cons x m ih =>
    intro l
    unfold wit at *
    rw [List.foldl_cons]
    split
    · exact ih l
    · obtain ⟨r, hr⟩ := ih (l ++ [x])
      exact ⟨x :: r, by rw [hr]; simp⟩
end Sw
end Go.Proofs.Ythabnombfbehkaa
