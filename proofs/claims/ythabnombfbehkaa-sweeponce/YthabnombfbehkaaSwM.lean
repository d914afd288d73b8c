/- SwpR, SwpT, in one text. -/
import Derived.Test.YthabnombfbehkaaRgP
import Derived.Test.YthabnombfbehkaaRgM
import Derived.Test.YthabnombfbehkaaRngC
import Derived.Test.YthabnombfbehkaaArM
import Derived.Test.YthabnombfbehkaaArnA
import Derived.Maps.AppendAt
/- The document's garbage: how it lies; New, Add, Unit. -/
namespace Go.Proofs.Ythabnombfbehkaa
set_option linter.ambiguousOpen false
open Go.RowKit
namespace Sw
open An Rg Ft Lv
set_option linter.unusedSimpArgs false
set_option linter.unusedVariables false

def gfp (t g : Nat) (sv fv : Value) (k : Nat) : Prop := k = t ∨ rfp g sv fv k

section
variable {base : Nat} {w w' : World} {t g b cap : Nat} {sv fv : Value} {A : Arn} {last : Int}

end


theorem below_dn {b : Nat} {w w' : World} (h : Below b w w') (n : Nat) : Below b w (w'.drewN n) := ⟨h.os, h.tape, h.output, h.size, h.block⟩

theorem kids_set (S : List Slt) (i : Nat) (x : Slt) (hx : x.kids = (S.getD i bare).kids) (j : Int) : (slG (S.set i x) j).kids = (slG S j).kids := by
  unfold slG
  rw [List.getD_eq_getElem?_getD, List.getElem?_set]
  by_cases e : i = j.toNat
  · rw [if_pos e]
    by_cases hl : i < S.length
    · rw [if_pos hl]
      show x.kids = _
      rw [hx, e]
    · rw [if_neg hl, List.getD_eq_getElem?_getD, List.getElem?_eq_none (by omega)]
  · rw [if_neg e, ← List.getD_eq_getElem?_getD]

theorem kids_link (S : List Slt) (i k j : Int) : (slG (link S i k) j).kids = (slG S j).kids := by
  unfold link setP setN
  rw [kids_set, kids_set]
  · rfl
  · rfl

theorem kids_splice (S : List Slt) (o t j : Int) : (slG (splice S o t).sl j).kids = (slG S j).kids := by
  unfold splice
  repeat' split
  all_goals first | rfl | (rw [kids_link, kids_link])

end Sw
end Go.Proofs.Ythabnombfbehkaa
/- The document's garbage: has, with, All. -/
namespace Go.Proofs.Ythabnombfbehkaa
set_option linter.ambiguousOpen false
open Go.RowKit
namespace Sw
open An Rg Ft Lv
set_option linter.unusedSimpArgs false
set_option linter.unusedVariables false


theorem add_at (g j : Nat) : (⟨g, 0, none⟩ : Addr).add j = ⟨g, j, none⟩ := by
  simp only [Addr.add]
  split
  · rename_i h
    rw [h]
  · simp

/-- One number more; what lay in the old row lies there still. -/
theorem run_append1 (w : World) (ty : TypeId) (base n : Nat) (v : Value) (xs : List Value) (hown : w.ownsRow base 3 1 v n xs) (a : Nat) (x : Nat) (hx : w.cell? ⟨a, 0, none⟩ = some (nun x)) (hn : n ≤ 1000) (hbase : base ≤ w.heap.size) :
    ∃ v' w', (Builtin.append_ #[22, 22] ty #[v, .slice (some ⟨a, 0, none⟩) 1 1]).run Try.prog w = .ok v' w' ∧ w'.ownsRow base 3 1 v' (n + 1) (xs ++ [nun x]) ∧ w.grownBy w' v.ownBlock ∧ (v'.ownBlock = v.ownBlock ∨ v'.ownBlock = some w.heap.size) ∧ ∀ g j u, v.ownBlock = some g → xs[j]? = some u → w'.cell? ⟨g, j, none⟩ = some u := by
  obtain ⟨i0, ji, hz0, hz1, hz2⟩ := info_parts info_int
  have hnews : ∀ (j : Nat) (u : Value), [nun x][j]? = some u → w.cell? ((⟨a, 0, none⟩ : Addr).add j) = some u := fun j u hu => by
    rcases j with _ | j
    · simp at hu
      subst hu
      simpa [Addr.add] using hx
    · simp at hu
  obtain ⟨v', w', hr, ho, hg, _, hat⟩ := run_append_own_at (P := Try.prog) w base 22 ty 3 i0 (.int .i64 0) 1 8 Try.underlying22 ji hz0 hz1 hz2 rfl (by decide) v n xs hown ⟨a, 0, none⟩ 1 1 [nun x] rfl hnews (by simp [Value.oneCell']) (by unfold maxLen; omega) (by omega) hbase
  refine ⟨v', w', hr, ho, hg, hat, fun g j u hv hu => ?_⟩
  rcases hat with e | e
  · have hj : j < xs.length := (List.getElem?_eq_some_iff.1 hu).1
    have h2 := ho.cells (g := g) (by rw [e]; exact hv) j u (by rw [List.getElem?_append_left hj]; exact hu)
    rwa [add_at] at h2
  · rcases hown.2 with ⟨rfl, _⟩ | ⟨g', cap, cur, rfl, hbg, hgc, hnc, hcm, hcs, htake⟩
    · simp [Value.ownBlock] at hv
    · obtain rfl : g' = g := by simpa [Value.ownBlock] using hv
      have hlt := (Array.getElem?_eq_some_iff.1 hgc).1
      have holds : ∀ (j : Nat) (u : Value), xs[j]? = some u → w.cell? ((⟨g', 0, none⟩ : Addr).add j) = some u := hown.cells (g := g') rfl
      by_cases hroom : n + 1 ≤ cap
      · have h3 := run_append_room (P := Try.prog) w 22 ty 3 i0 Try.underlying22 ji g' n cap cur hgc ⟨a, 0, none⟩ 1 1 [nun x] (by rw [hz1]; rfl) hnews (by simp [Value.oneCell']) hroom (by rw [hz1, hcs, Nat.mul_one, Nat.mul_one]; simpa using hroom)
        rw [hr] at h3
        have h4 : v' = .slice (some ⟨g', 0, none⟩) (n + 1) cap := by injection h3
        rw [h4] at e
        have : g' = w.heap.size := by simpa [Value.ownBlock] using e
        omega
      · have h3 := run_append_grow (P := Try.prog) w 22 ty 3 i0 (.int .i64 0) Try.underlying22 ji hz0 ⟨g', 0, none⟩ n cap xs (by rw [hz1]; exact hown.1) holds ⟨a, 0, none⟩ 1 1 [nun x] (by rw [hz1]; rfl) hnews (by omega) (by omega) (growslice_fits (by omega) (by rw [hz2]; omega))
        rw [hr] at h3
        have h4 : w' = w.drew.alloc (.cells (xs.toArray ++ [nun x].toArray ++ Builtin.zeroCells (Value.int .i64 0).cells (grownCap w (n + 1) cap 3 - (n + 1))) 3) := by injection h3
        rw [h4]
        have h5 := holds j u hu
        have h6 : (w.drew.alloc (.cells (xs.toArray ++ [nun x].toArray ++ Builtin.zeroCells (Value.int .i64 0).cells (grownCap w (n + 1) cap 3 - (n + 1))) 3)).heap[g']? = w.heap[g']? := heap_alloc_old w.drew _ hlt
        rw [World.cell?_of_block (w := w) h6]
        rwa [add_at] at h5

set_option maxRecDepth 100000 in
theorem wpList_append1 {ops : Array Oper} {rest : List Oper} {o : Oper} {a : Act} {w : World} {Q : Exit → Act → World → Prop} (hgd : o.guard = none) (s x : Operand)
    (ho : o.op = .call { callee := .builtin .append, args := #[s, x], argTypes := #[22, 22] })
    (base n : Nat) (v : Value) (xs : List Value) (hs : a.eval s = v) (hown : w.ownsRow base 3 1 v n xs) (b y : Nat) (hx : a.eval x = .slice (some ⟨b, 0, none⟩) 1 1) (hy : w.cell? ⟨b, 0, none⟩ = some (nun y)) (hn : n ≤ 1000) (hbase : base ≤ w.heap.size)
    (h : ∀ v' w', w'.ownsRow base 3 1 v' (n + 1) (xs ++ [nun y]) → w.grownBy w' v.ownBlock → (v'.ownBlock = v.ownBlock ∨ v'.ownBlock = some w.heap.size) → (∀ g j u, v.ownBlock = some g → xs[j]? = some u → w'.cell? ⟨g, j, none⟩ = some u) → wpList Try.prog ops Q rest (a.put o.dst v') w') :
    wpList Try.prog ops Q (o :: rest) a w := by
  refine wpList_plain hgd fun K hK => ?_
  obtain ⟨v', w', hr, h2, h3, h4, h5⟩ := run_append1 w o.type base n v xs hown b y hy hn hbase
  unfold Oper.wp execOp
  simp only [ho, resolve, invoke, builtin, Sem.run_bind, Sem.run_pure, Result.andThen_ok, List.map_toArray, List.map_cons, List.map_nil, hs, hx, hr]
  exact hK _ _ (h v' w' h2 h3 h4 h5)

theorem wit_snoc (l m : List Nat) (x : Nat) : wit l (m ++ [x]) = if x ∈ wit l m then wit l m else wit l m ++ [x] := by
  unfold wit
  rw [List.foldl_append]
  rfl

/-- What lay in a row lies there still. -/
def Kept (v : Value) (l : List Nat) (w : World) : Prop := ∀ g j u, v.ownBlock = some g → (l.map nun)[j]? = some u → w.cell? ⟨g, j, none⟩ = some u

/-- Amid with. -/
structure Wt (base : Nat) (w wr : World) (v : Value) (l : List Nat) (v2 : Value) (m : List Nat) (k : Nat) (lv : Value) (n : Nat) : Prop where
  own : wr.ownsRow base 3 1 lv n ((wit l (m.take k)).map nun)
  own2 : wr.ownsRow 0 3 1 v2 m.length (m.map nun)
  sep : ∀ g, lv.ownBlock = some g → v2.ownBlock ≠ some g
  bel : Below base w wr
  kept : ∀ g j u, v.ownBlock = some g → (l.map nun)[j]? = some u → wr.cell? ⟨g, j, none⟩ = some u
  vlt : ∀ g, v.ownBlock = some g → g < w.heap.size

section
variable {base : Nat} {w wr w' : World} {v v2 lv v' : Value} {l m : List Nat} {k n : Nat}

theorem Wt.len (h : Wt base w wr v l v2 m k lv n) : (wit l (m.take k)).length = n := by
  have := h.own.1
  simpa using this

theorem Wt.same (h : Wt base w wr v l v2 m k lv n) {x : Nat} (hx : m[k]? = some x) (hi : x ∈ wit l (m.take k)) : Wt base w wr v l v2 m (k + 1) lv n := by
  have e : wit l (m.take (k + 1)) = wit l (m.take k) := by
    rw [List.take_add_one, hx]
    show wit l (m.take k ++ [x]) = _
    rw [wit_snoc, if_pos hi]
  exact ⟨by rw [e]; exact h.own, h.own2, h.sep, h.bel, h.kept, h.vlt⟩

theorem Wt.more (h : Wt base w wr v l v2 m k lv n) {x : Nat} (hx : m[k]? = some x) (hi : x ∉ wit l (m.take k)) (hb : base ≤ w.heap.size) {o : Obj}
    (ho : w'.ownsRow base 3 1 v' (n + 1) ((wit l (m.take k)).map nun ++ [nun x])) (hg : (wr.alloc o).grownBy w' lv.ownBlock) (hat : v'.ownBlock = lv.ownBlock ∨ v'.ownBlock = some (wr.alloc o).heap.size) (hk : ∀ g j u, lv.ownBlock = some g → ((wit l (m.take k)).map nun)[j]? = some u → w'.cell? ⟨g, j, none⟩ = some u) : Wt base w w' v l v2 m (k + 1) v' (n + 1) := by
  have e : wit l (m.take (k + 1)) = wit l (m.take k) ++ [x] := by
    rw [List.take_add_one, hx]
    show wit l (m.take k ++ [x]) = _
    rw [wit_snoc, if_neg hi]
  have hsz := h.bel.size
  have hKp : Keep (fun j => lv.ownBlock = some j) wr w' := ((Keep.refl (fun j => lv.ownBlock = some j) wr).alloc o).grown hg (fun j e => .inl e)
  refine ⟨by rw [e, List.map_append]; exact ho, hKp.own h.own2 (fun g hg' e => h.sep g e hg'), fun g hg' e2 => ?_, h.bel.trans (hKp.below (fun j hj e => by have := (h.own.lt j e).1; omega) (Nat.le_trans hb hsz)), fun g j u hv hu => ?_, h.vlt⟩
  · rcases hat with e3 | e3
    · exact h.sep g (by rw [← e3]; exact hg') e2
    · rw [e3] at hg'
      have h1 := (h.own2.lt g e2).2
      have : (wr.alloc o).heap.size = g := Option.some.inj hg'
      rw [World.size_alloc] at this
      omega
  · by_cases hsame : lv.ownBlock = some g
    · obtain ⟨r, hr⟩ := wit_pre (m.take k) l
      refine hk g j u hsame ?_
      have hj : j < (l.map nun).length := (List.getElem?_eq_some_iff.1 hu).1
      rw [hr, List.map_append, List.getElem?_append_left hj]
      exact hu
    · have h1 := h.kept g j u hv hu
      have h2 := h.vlt g hv
      rw [hKp.cell (p := ⟨g, j, none⟩) (by show g < _; omega) hsame]
      exact h1
end

/-- Amid All. -/
structure Ag (S : List Slt) (w wr : World) (full : List Nat) (k : Nat) (lv : Value) (n : Nat) (l : List Nat) : Prop where
  own : wr.ownsRow w.heap.size 3 1 lv n (l.map nun)
  len : l.length = n
  gl : Gl l
  bel : Below w.heap.size w wr
  eq : goG S (33 - k) k l = full

end Sw
end Go.Proofs.Ythabnombfbehkaa
