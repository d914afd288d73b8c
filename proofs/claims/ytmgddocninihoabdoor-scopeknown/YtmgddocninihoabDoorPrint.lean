/- Print of a book: the names of a set's scopes, with blanks between. -/
import Derived.Test.YtmgddocninihoabDoorNames
import Derived.Test.YtmgddocninihoabDoorRead
import Derived.Test.YtmgddocninihoabDoorBuild
import Derived.Test.YtmgddocninihoabDoorIter
namespace Go.Proofs.YtmgddocninihoabDoor
set_option linter.ambiguousOpen false
open Go.RowKit Nm Er
namespace Sc
set_option linter.unusedSimpArgs false
set_option linter.unusedVariables false
attribute [local go_sem] Oper.semAt_some

/-- One name more. -/
def addP (acc p : List UInt8) : List UInt8 := if acc = [] then p else acc ++ [32] ++ p
/-- The names of some numbers, with blanks between. -/
def outP (l : List (List UInt8)) (ns : List Nat) : List UInt8 := ns.foldl (fun acc i => addP acc (l.getD i [])) []
def printL (l : List (List UInt8)) (s : Nat) : List UInt8 := outP l (Bt.numsL s 64)

theorem outP_snoc (l : List (List UInt8)) (ns : List Nat) (i : Nat) : outP l (ns ++ [i]) = addP (outP l ns) (l.getD i []) := by simp [outP]

theorem outP_len (l : List (List UInt8)) (hd : ∀ p ∈ l, p.length ≤ 131) (ns : List Nat) : (outP l ns).length ≤ 132 * ns.length := by
  have key : ∀ (ns : List Nat) (acc : List UInt8), (ns.foldl (fun acc i => addP acc (l.getD i [])) acc).length ≤ acc.length + 132 * ns.length := by
    intro ns
    induction ns with
    | nil => intro acc; simp
    | cons i ns ih =>
      intro acc
      have h1 := ih (addP acc (l.getD i []))
      have h2 : (l.getD i []).length ≤ 131 := by
        rcases Nat.lt_or_ge i l.length with h | h
        · rw [getD_at l i h]; exact hd _ (List.getElem_mem h)
        · simp [List.getD_eq_getElem?_getD, List.getElem?_eq_none h]
      have h3 : (addP acc (l.getD i [])).length ≤ acc.length + 132 := by
        unfold addP
        split
        · omega
        · simp only [List.length_append, List.length_cons, List.length_nil]; omega
      simp only [List.foldl_cons, List.length_cons]
      omega
  have := key ns []
  simpa [outP] using this

theorem bu_rest {W W' : World} {b base lo hi : Nat} {bs : List UInt8} {row : Option Nat} (h : Lb.Bu W b base bs) (hg : W.grownBy W' row) (hr : Rf.Away lo hi W row) (hb : b < lo) (hbase : hi ≤ base) : Lb.Bu W' b base bs := by
  obtain ⟨⟨p, v, hp, hk, ho⟩, hlt⟩ := h
  exact ⟨⟨p, v, hp, (hg.block b (Array.getElem?_eq_some_iff.1 hk).1 (fun e => by have := (hr b e.symm).1; omega)).trans hk, hr.row ho hbase hg⟩, hlt⟩

theorem kb_leaves {X : Nat → Prop} {lo hi b : Nat} {W W' : World} (h : Lb.Kb b hi W W') (hb : b < lo) (hlo : lo ≤ hi) (hX : ∀ k, X k → k ≠ b ∧ k < hi) : Rf.Leaves X lo hi W W' :=
  ⟨h.size, fun k o hk hx => h.block k o hk (by rcases hx with hx | hx; exact (hX k hx).1; omega) (by rcases hx with hx | hx; exact .inl (hX k hx).2; exact hx.2)⟩

theorem within_lt {s n x : Nat} (hw : Bt.less s (allS n) = 0) (hs : s < 18446744073709551616) (hn : n ≤ 64) (hx : x < 64) (hb : s.testBit x = true) : x < n := by
  have h1 : (Bt.less s (allS n)).testBit x = false := by rw [hw]; simp
  have ha := allS_lt n hn
  have e : 18446744073709551615 - allS n = 2 ^ 64 - (allS n + 1) := by omega
  rw [Bt.less, Nat.testBit_and, e, Nat.testBit_two_pow_sub_succ ha, hb] at h1
  simp only [allS, Nat.testBit_two_pow_sub_one] at h1
  simpa [hx] using h1

set_option maxRecDepth 1000000 in
set_option maxHeartbeats 4000000 in
theorem print_s (pb mb : Nat) (l : List (List UInt8)) (s : Nat) (w : World) (hM : Mp w pb mb l) (hs : s < 18446744073709551616) (hw : Bt.less s (allS l.length) = 0) (hT : Bt.Tab w) (h1 : 1 < w.heap.size) :
    Calls Tryd.prog 8 #[.pointer (some ⟨pb, 0, none⟩), Bt.st s] w fun e w' => e = .returned (.tuple #[.string (B (printL l s)), .nilIface]) ∧ Below w.heap.size w w' := by
  have h64 := hM.most
  have ca := all_s pb mb l w hM
  have cw := Bt.within_any s (allS l.length) w hs (allS_lt _ h64)
  have cn := names_s pb mb l w hM
  refine (callsIn_wide (n := 8)).1 ?_
  refine callsIn_of_wp_marks Tryd.func8 rfl trivial ?_ rfl
  refine wpIn_wide.2 ?_
  simp only [Tryd.ntmps8, List.size_toArray, List.length_cons, List.length_nil, Nat.reduceAdd, Nat.reduceSub, Array.replicate_succ, Array.replicate_zero, List.push_toArray, List.append_toArray, List.nil_append, List.cons_append]
  have hwb : (Bt.less s (allS l.length) == 0) = true := by rw [hw]; rfl
  rw [hwb] at cw
  have HD : Hid (∀ p ∈ l, dottedB p = true) := by obtain ⟨_, ⟨D, hD, _⟩, _⟩ := hM; exact hD.dotted
  go_wp2_with fail
  refine ca.mono ?_
  rintro e w1 ⟨rfl, hq⟩
  subst w1
  go_wp2_with fail
  refine cw.mono ?_
  rintro e w1 ⟨rfl, hq⟩
  subst w1
  go_wp2_with fail
  refine cn.mono ?_
  rintro e w1 ⟨v, rfl, hown, hB1⟩
  obtain ⟨a, cap, rfl, hc1, hc2, hcell⟩ := rd_own (by simpa using hown)
  go_wp2_with fail
  refine (Bt.allMake_any s _).mono ?_
  rintro e w2 ⟨rfl, hq⟩
  subst w2
  go_wp2_with fail
  have hs0 : (((w1.alloc (.cells #[.slice a l.length cap] 26)).alloc (.cells #[.pointer none, .slice none 0 0] 59)).alloc (.cells #[Bt.st s] 28)).heap.size = w1.heap.size + 3 := by simp
  have q0 : Boxed (((w1.alloc (.cells #[.slice a l.length cap] 26)).alloc (.cells #[.pointer none, .slice none 0 0] 59)).alloc (.cells #[Bt.st s] 28)) w1.heap.size 26 (.slice a l.length cap) := ((Boxed.new w1 _ _).alloc _).alloc _
  have q1 : (((w1.alloc (.cells #[.slice a l.length cap] 26)).alloc (.cells #[.pointer none, .slice none 0 0] 59)).alloc (.cells #[Bt.st s] 28)).heap[w1.heap.size + 1]? = some (.cells #[.pointer none, .slice none 0 0] 59 (0, 0)) := by
    have h1 := World.alloc_heap_new (w1.alloc (.cells #[.slice a l.length cap] 26)) (.cells #[.pointer none, .slice none 0 0] 59)
    have h2 := Below.heap_alloc ((w1.alloc (.cells #[.slice a l.length cap] 26)).alloc (.cells #[.pointer none, .slice none 0 0] 59)) (.cells #[Bt.st s] 28) (w1.heap.size + 1) (by simp)
    rw [h2]
    simpa using h1
  have q2 : Boxed (((w1.alloc (.cells #[.slice a l.length cap] 26)).alloc (.cells #[.pointer none, .slice none 0 0] 59)).alloc (.cells #[Bt.st s] 28)) (w1.heap.size + 1 + 1) 28 (Bt.st s) := by
    have := Boxed.new ((w1.alloc (.cells #[.slice a l.length cap] 26)).alloc (.cells #[.pointer none, .slice none 0 0] 59)) 28 (Bt.st s)
    simpa using this
  have hB0 : Below w1.heap.size w1 (((w1.alloc (.cells #[.slice a l.length cap] 26)).alloc (.cells #[.pointer none, .slice none 0 0] 59)).alloc (.cells #[Bt.st s] 28)) := (((Below.refl _ w1).alloc (Nat.le_refl _) _).alloc (by simp) _).alloc (by simp; omega) _
  have hsz1 := hB1.size
  have hT0 : Bt.Tab (((w1.alloc (.cells #[.slice a l.length cap] 26)).alloc (.cells #[.pointer none, .slice none 0 0] 59)).alloc (.cells #[Bt.st s] 28)) := fun j hj => ((hB1.trans (hB0.mono hsz1)).cell (p := ⟨1, j, none⟩) h1).trans (hT j hj)
  generalize (((w1.alloc (.cells #[.slice a l.length cap] 26)).alloc (.cells #[.pointer none, .slice none 0 0] 59)).alloc (.cells #[Bt.st s] 28)) = W0 at *
  have HC : Hid (0 < l.length → ∃ g o, a = some ⟨g, o, none⟩ ∧ g < w1.heap.size ∧ ∀ j (hj : j < l.length), w1.cell? ⟨g, o + j, none⟩ = some (.string (B l[j]))) := hcell
  have b0 : Lb.Bu W0 (w1.heap.size + 1) (W0.heap.size + 2 + 0) [] := ⟨⟨_, _, .inl rfl, q1, World.ownsRow_nil _ _ _ _⟩, by omega⟩
  clear hcell hown
  have hmx : cap ≤ 9223372036854775807 := by unfold maxLen at hc2; omega
  refine Rf.wp_range (L := Bt.numsL s 64) (w0 := W0) rfl (enters_of Tryd.func37 (by kernel_rfl) rfl)
    (Bt.all_seq s (w1.heap.size + 1 + 1) W0 hs q2.cell q2.lt hT0 (by omega)) (Below.refl _ _) (fun _ => rfl) (fun b hb => by subst hb; omega)
    (fun pre W' => Boxed W' w1.heap.size 26 (.slice a l.length cap) ∧ Lb.Bu W' (w1.heap.size + 1) (W0.heap.size + 2 + 0) (outP l pre) ∧ Below w1.heap.size w1 W')
    (fun c pre W' => False) ?rest ?restx ⟨q0, b0, hB0⟩
    (fun x => { tmps := #[.pointer (some ⟨pb, 0, none⟩), Bt.st s, undef, undef, .string ⟨#[]⟩, .nilIface, .pointer (some ⟨w1.heap.size, 0, none⟩), .pointer (some ⟨w1.heap.size + 1, 0, none⟩), Bt.nu x, Bt.st s, .pointer (some ⟨pb, 0, none⟩), Bt.st (allS l.length), .bool true, .bool false, undef, .pointer (some ⟨pb, 0, none⟩), .slice a l.length cap, Bt.st s, .func (.func 37) #[] #[.pointer (some ⟨w1.heap.size + 1 + 1, 0, none⟩)], Bt.nu x, undef, undef, undef, undef, undef, undef, undef, undef, undef], defers := [] }) ?assign ?body ?done ?stop
  case rest =>
    rintro pre A C row ⟨h2, h3, h4⟩ hg hr
    exact ⟨h2.kept hg (fun e => by have := (hr _ e.symm).1; omega), bu_rest h3 hg hr (by omega) (Nat.le_refl _), h4.grown hg h4.size (fun r e => by have := (hr r e).1; omega)⟩
  case restx =>
    rintro c pre A C row h
    exact h.elim
  case assign =>
    intro l' x W2 K hK
    gi_wp2
    exact hK
  case body =>
    rintro l' pre x W2 hpre hsz2 ⟨h2, h3, h4⟩
    obtain ⟨hx1, hx2, hx3⟩ := Bt.next_num hpre
    have hxl : x < l.length := within_lt hw hs h64 hx1 hx2
    obtain ⟨g, o, rfl, hgl, hcj⟩ := HC.out (by omega)
    have hcx : W2.cell? ⟨g, o + x, none⟩ = some (.string (B l[x])) := (h4.cell (p := ⟨g, o + x, none⟩) hgl).trans (hcj x hxl)
    have hdx : dottedB l[x] = true := HD.out _ (List.getElem_mem hxl)
    have h131 := dotted_len hdx
    have hpl : pre.length ≤ 64 := by have := hpre.length_le; have h5 := Bt.ones_le s; rw [Bt.numsL_len] at this; simp at this; omega
    have hol : (outP l pre).length ≤ 132 * pre.length := outP_len l (fun p hp => dotted_len (HD.out p hp)) pre
    have HO : Hid (outP l (pre ++ [x]) = addP (outP l pre) l[x]) := by
      show _ = _
      rw [outP_snoc, getD_at l x hxl]
    have c2 := h2.cell
    clear hcj hdx
    generalize l[x] = p at *
    generalize hacc : outP l pre = acc at *
    have cl := Lb.len_any _ _ acc W2 h3
    gi_wp2_with fail
    refine ⟨trivial, CallsIn.inRound l' (callsIn_wide.2 cl) |>.mono ?_⟩
    rintro e W3 ⟨rfl, hq⟩
    subst W3
    by_cases hz : acc = []
    · subst hz
      have e1 : addP [] p = p := by simp [addP]
      rw [e1] at HO
      have cws := Lb.writeString_any _ _ [] p W2 h3 (by simp) (by omega) hsz2
      gi_wp2_with fail
      refine ⟨trivial, CallsIn.inRound l' (callsIn_wide.2 cws) |>.mono ?_⟩
      rintro e W4 ⟨rfl, hk4, hb4⟩
      gi_wp2
      refine ⟨kb_leaves hk4 (by omega) (by omega) (fun k hk => by subst hk; omega), hk4.block _ _ h2 (by omega) (.inl (by omega)), ?_, h4.trans (hk4.below (by omega) (by omega) h4.size)⟩
      rw [HO.out]; exact hb4
    · have hpos : 0 < acc.length := List.length_pos_iff.2 hz
      have e1 : addP acc p = (acc ++ [32]) ++ p := by simp [addP, hz]
      rw [e1] at HO
      have cwb := Lb.writeByte_any _ _ acc 32 W2 h3 (by omega) hsz2
      have cwb2 : Calls Tryd.prog 22 #[.pointer (some ⟨w1.heap.size + 1, 0, none⟩), .int .u8 32] W2 fun e w' => e = .returned .nilIface ∧ Lb.Kb (w1.heap.size + 1) (W0.heap.size + 2 + 0) W2 w' ∧ Lb.Bu w' (w1.heap.size + 1) (W0.heap.size + 2 + 0) (acc ++ [32]) := cwb
      clear cwb hz
      gi_wp2_with fail
      refine ⟨trivial, CallsIn.inRound l' (callsIn_wide.2 cwb2) |>.mono ?_⟩
      rintro e W4 ⟨rfl, hk4, hb4⟩
      have h24 : Boxed W4 w1.heap.size 26 (.slice (some ⟨g, o, none⟩) l.length cap) := hk4.block _ _ h2 (by omega) (.inl (by omega))
      have hbel4 := hk4.below (n := w1.heap.size) (by omega) (by omega) h4.size
      have c4 := h24.cell
      have hcx4 : W4.cell? ⟨g, o + x, none⟩ = some (.string (B p)) := (hbel4.cell (p := ⟨g, o + x, none⟩) hgl).trans hcx
      have cws := Lb.writeString_any _ _ (acc ++ [32]) p W4 hb4 (by simp; omega) (by omega) (Nat.le_trans hsz2 hk4.size)
      gi_wp2_with fail
      refine ⟨trivial, CallsIn.inRound l' (callsIn_wide.2 cws) |>.mono ?_⟩
      rintro e W5 ⟨rfl, hk5, hb5⟩
      gi_wp2
      refine ⟨kb_leaves (hk4.trans hk5) (by omega) (by omega) (fun k hk => by subst hk; omega), hk5.block _ _ h24 (by omega) (.inl (by omega)), ?_, (h4.trans hbel4).trans (hk5.below (by omega) (by omega) (h4.trans hbel4).size)⟩
      rw [HO.out]; exact hb5
  case done =>
    rintro W2 ⟨h2, h3, h4⟩ hK
    have cs := Lb.string_any _ _ w1.heap.size _ W2 h3 (by omega) h4.size
    go_wp2_with fail
    refine cs.mono ?_
    rintro e W3 ⟨rfl, hb3, hk3⟩
    have hK3 : W3.heap[w1.heap.size + 3]? = some (.deferred (some [])) := hk3 _ _ (hs0 ▸ hK) (by intro e; have := Option.some.inj e; omega) (fun c fz e => by cases e)
    go_wp2
    refine ⟨by simp, .inl ⟨_, _, rfl, run_takeDeferred hK3, ?_⟩⟩
    have hall := (hB1.trans (h4.mono hsz1)).trans (hb3.mono hsz1)
    exact ⟨_, results_tmp2 rfl _ _ _, rfl, hall.grown (grownBy_putObj' _ _ _) hall.size (fun r e => by cases e; omega)⟩
  case stop =>
    rintro c pre W2 hpre h hK
    exact h.elim
set_option maxRecDepth 100000 in
set_option maxHeartbeats 1000000 in
theorem print_bad (pb mb : Nat) (l : List (List UInt8)) (s : Nat) (w : World) (hM : Mp w pb mb l) (hs : s < 18446744073709551616) (hw : Bt.less s (allS l.length) ≠ 0) :
    Calls Tryd.prog 8 #[.pointer (some ⟨pb, 0, none⟩), Bt.st s] w fun e w' => e = .returned (.tuple #[.string ⟨#[]⟩, noV 11]) ∧ w' = w := by
  have h64 := hM.most
  have ca := all_s pb mb l w hM
  have cw := Bt.within_any s (allS l.length) w hs (allS_lt _ h64)
  have hwb : (Bt.less s (allS l.length) == 0) = false := by rw [beq_eq_false_iff_ne]; exact hw
  rw [hwb] at cw
  go_enter Tryd.func8, Tryd.ntmps8
  go_wp2_with fail
  refine ca.mono ?_
  rintro e w1 ⟨rfl, hq⟩
  subst w1
  go_wp2_with fail
  refine cw.mono ?_
  rintro e w1 ⟨rfl, hq⟩
  subst w1
  go_wp2
  go_ret2
  exact ⟨rfl, rfl⟩
end Sc
end Go.Proofs.YtmgddocninihoabDoor
