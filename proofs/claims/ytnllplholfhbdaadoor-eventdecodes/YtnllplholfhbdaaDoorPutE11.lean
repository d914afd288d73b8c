import Derived.Test.YtnllplholfhbdaaDoorTolE11
/- What the program writes of a happening. -/
namespace Go.Proofs.YtnllplholfhbdaaDoor
set_option linter.ambiguousOpen false
open Go.RowKit
namespace Ev
namespace Pe
open Pk Sm Ft
open Pk.Pp (RW RR)
set_option linter.unusedSimpArgs false
set_option linter.unusedVariables false

theorem sev_le (m : Nat) (h : m < 18446744073709551616) : (sev m).length ≤ 10 := sev_len10 m h

theorem sevs_len (ms : List Nat) (h : ∀ m ∈ ms, m < 9223372036854775808) : (ms.flatMap sev).length ≤ 10 * ms.length := by
  induction ms with
  | nil => simp
  | cons a l ih =>
    have h1 := sev_le a (by have := h a (by simp); omega)
    have h2 := ih (fun m hm => h m (by simp [hm]))
    rw [List.flatMap_cons, List.length_append, List.length_cons]
    omega

set_option maxRecDepth 100000 in
set_option maxHeartbeats 4000000 in
theorem numbers_c (w : World) (p : Nat) (F : Nat → Prop) (l : List UInt8) (g : Nat) (ms : List Nat) (h : RW w p F l) (hg : w.heap[g]? = some (.cells (ms.map fun m : Nat => nu (m : Int)).toArray 3)) (hgF : ¬ F g) (hn : ∀ m ∈ ms, m < 9223372036854775808) (hlen : ms.length ≤ 5) (hl : l.length ≤ 1000000) :
    Calls Tryd.prog 100 #[ptr p, .slice (some ⟨g, 0, none⟩) ms.length ms.length] w fun e w' => (∃ u, e = .returned u) ∧ ∃ F', RW w' p F' (l ++ ms.flatMap sev) ∧ Keep F w w' ∧ Goes w F F' := by
  have HN := Hid.mk' hn
  have HG := Hid.mk' hg
  have HR := Hid.mk' h
  obtain ⟨n, hN⟩ : ∃ n, ms.length = n := ⟨_, rfl⟩
  have HL := Hid.mk' hN
  rw [hN] at hlen ⊢
  have hgl := (Array.getElem?_eq_some_iff.1 hg).1
  clear hn hg h hN
  go_enter Tryd.func100, Tryd.ntmps100
  go_wp2
  go_loopw [5, 8] (fun nv iv wr => ∃ k : Nat, k ≤ n ∧ iv = nu k ∧ ∃ F', Hid (RW wr p F' (l ++ (ms.take k).flatMap sev)) ∧ Hid (Keep F w wr) ∧ Hid (Goes w F F')) (fun _ iv _ => n - (intOf iv).toNat)
  case atStart => exact ⟨0, by omega, rfl, F, by show RW w p F (l ++ []); rw [List.append_nil]; exact HR.out, Keep.refl _ _, Goes.refl _ _⟩
  case round =>
  obtain ⟨k, hk, rfl, F', hW, hK, hM⟩ := hrel
  by_cases hkn : k < n
  · obtain ⟨m, hm⟩ : ∃ m, ms[k]? = some m := ⟨ms[k]'(by have := HL.out; omega), List.getElem?_eq_getElem _⟩
    have hml := HN.out m (List.mem_of_getElem? hm)
    have hcell : wr.cell? ⟨g, k, none⟩ = some (nu (m : Int)) := cell_at (hK.out.at HG.out hgF) (by simp [hm])
    have HT : Hid ((ms.take (k + 1)).flatMap sev = (ms.take k).flatMap sev ++ sev m) := by
      show _ = _
      rw [List.take_add_one, hm]
      simp
    have hb := sevs_len (ms.take k) (fun x hx => HN.out x (List.mem_of_mem_take hx))
    have hb2 := sev_le m (by omega)
    have C := Hid.mk' (Pk.Pp.number_rw wr p F' _ m hW.out (by omega) (by
      rw [List.length_append, List.length_append]
      have : (ms.take k).length ≤ 5 := by rw [List.length_take]; omega
      omega))
    have hkI : (k : Int) < (n : Int) := by omega
    have hmI : (m : Int) < 9223372036854775808 := by omega
    have hmI2 : (m : Int) < 18446744073709551616 := by omega
    have hm0 : (0 : Int) ≤ (m : Int) := by omega
    clear hb hb2 hm
    go_wp2_with fail
    refine C.out.mono ?_
    rintro e w2 ⟨⟨u, rfl⟩, F2, hW2, hK2, hM2⟩
    have HW2 := Hid.mk' hW2
    have HK2 := Hid.mk' hK2
    have HM2 := Hid.mk' hM2
    clear hW2 hK2 hM2 hcell
    go_wp2
    go_roundw
    case rel =>
      refine ⟨k + 1, by omega, by go_num, F2, ?_, hK.out.trans HK2.out (fun i hi hf => ?_), fun i hi => ?_⟩
      · show RW _ _ _ _
        rw [HT.out, ← List.append_assoc]
        exact HW2.out
      · rcases hM.out i hf with h | h
        · exact h
        · omega
      · rcases HM2.out i hi with h | h
        · exact hM.out i h
        · have := hK.out.size
          exact .inr (by omega)
    case measure => simp [intOf]; omega
  · obtain rfl : k = n := by omega
    go_wp2
    go_end0
    refine ⟨⟨_, rfl⟩, F', ?_, hK.out, hM.out⟩
    have := hW.out
    rw [List.take_of_length_le (by have := HL.out; omega)] at this
    exact this

/-- A write under way: the writer, the happening's block. -/
structure Pn (wE w : World) (p : Nat) (FE F : Nat → Prop) (l : List UInt8) (bx : Nat) (o : Obj) : Prop where
  rw : RW w p F l
  blk : w.heap[bx]? = some o
  nF : ¬ F bx
  go : Goes wE FE F
  K : Keep FE wE w

theorem Pn.call {wE w w' : World} {p : Nat} {FE F F' : Nat → Prop} {l l' : List UInt8} {bx : Nat} {o : Obj} (h : Pn wE w p FE F l bx o) (hw : RW w' p F' l') (hk : Keep F w w') (hm : Goes w F F') : Pn wE w' p FE F' l' bx o := by
  refine ⟨hw, hk.at h.blk h.nF, fun hf => ?_, fun i hi => ?_, h.K.trans hk (fun i hi hf => ?_)⟩
  · rcases hm bx hf with h1 | h1
    · exact h.nF h1
    · have := (Array.getElem?_eq_some_iff.1 h.blk).1
      omega
  · rcases hm i hi with h1 | h1
    · exact h.go i h1
    · have := h.K.size
      exact .inr (by omega)
  · rcases h.go i hf with h1 | h1
    · exact h1
    · omega

theorem Pn.alloc {wE w : World} {p : Nat} {FE F : Nat → Prop} {l : List UInt8} {bx : Nat} {o : Obj} (h : Pn wE w p FE F l bx o) (o2 : Obj) : Pn wE (w.alloc o2) p FE F l bx o := by
  have hK : Keep (fun _ => False) w (w.alloc o2) := (Keep.refl _ _).alloc _
  exact ⟨Pk.Pp.keepW h.rw hK (fun _ _ h => h), hK.at h.blk (fun h => h), h.nF, h.go, h.K.alloc _⟩

theorem Pn.start {w : World} {p : Nat} {F : Nat → Prop} {l : List UInt8} (h : RW w p F l) (o : Obj) : Pn w (w.alloc o) p F F l w.heap.size o := by
  have hK : Keep (fun _ => False) w (w.alloc o) := (Keep.refl _ _).alloc _
  exact ⟨Pk.Pp.keepW h hK (fun _ _ h => h), heap_alloc_new _ _, fun hf => absurd (Pk.Pp.ltW h _ hf) (Nat.lt_irrefl _), Goes.refl _ _, (Keep.refl _ _).alloc _⟩

/-- Numbers, out of a new row. -/
theorem Pn.nums {wE w : World} {p : Nat} {FE F : Nat → Prop} {l : List UInt8} {bx : Nat} {o : Obj} (h : Pn wE w p FE F l bx o) (ms : List Nat) (cs : Array Value) (hcs : (ms.map fun m : Nat => nu (m : Int)).toArray = cs) (n : Nat) (hlen : ms.length = n) (hn5 : n ≤ 5) (hn : ∀ m ∈ ms, m < 9223372036854775808) (hl : l.length ≤ 1000000) :
    Calls Tryd.prog 100 #[ptr p, .slice (some ⟨w.heap.size, 0, none⟩) n n] (w.alloc (.cells cs 3)) fun e w' => (∃ u, e = .returned u) ∧ ∃ F', Pn wE w' p FE F' (l ++ ms.flatMap sev) bx o := by
  subst hlen hcs
  have h2 := h.alloc (.cells (ms.map fun m : Nat => nu (m : Int)).toArray 3)
  refine (numbers_c _ p F l w.heap.size ms h2.rw (heap_alloc_new _ _) (fun hf => absurd (Pk.Pp.ltW h.rw _ hf) (Nat.lt_irrefl _)) hn hn5 hl).mono ?_
  rintro e w' ⟨hu, F', a, b, c⟩
  exact ⟨hu, F', h2.call a b c⟩

set_option maxRecDepth 100000 in
set_option maxHeartbeats 4000000 in
theorem rev_put (n : Nat) (hn : n < 9223372036854775808) (w : World) (p : Nat) (F : Nat → Prop) (l : List UInt8) (h : RW w p F l) (hl : l.length ≤ 1000000) : Calls Tryd.prog 105 #[.agg #[nu (n : Int)], ptr p] w fun e w' => (∃ u, e = .returned u) ∧ ∃ F', RW w' p F' (l ++ sev n) ∧ Keep F w w' ∧ Goes w F F' := by
  have H0 := Hid.mk' (Pn.start h (.cells #[nu (n : Int)] 93))
  have c := H0.out.nums [n] #[nu (n : Int)] rfl 1 rfl (by decide) (by simpa using hn) hl
  rw [World.size_alloc] at c
  have C := Hid.mk' c
  clear c
  have q0 := cell_at (j := 0) H0.out.blk rfl
  clear h H0
  go_enter Tryd.func105, Tryd.ntmps105
  go_wp2_with fail
  refine C.out.mono ?_
  rintro e w2 ⟨⟨u, rfl⟩, F2, hP⟩
  have HP := Hid.mk' hP
  clear hP q0
  go_wp2
  go_end0
  refine ⟨⟨_, rfl⟩, F2, ?_, HP.out.K, HP.out.go⟩
  have := HP.out.rw
  simpa using this

set_option maxRecDepth 100000 in
set_option maxHeartbeats 4000000 in
theorem tick_put (n : Nat) (hn : n < 9223372036854775808) (w : World) (p : Nat) (F : Nat → Prop) (l : List UInt8) (h : RW w p F l) (hl : l.length ≤ 1000000) : Calls Tryd.prog 107 #[.agg #[nu (n : Int)], ptr p] w fun e w' => (∃ u, e = .returned u) ∧ ∃ F', RW w' p F' (l ++ sev n) ∧ Keep F w w' ∧ Goes w F F' := by
  have H0 := Hid.mk' (Pn.start h (.cells #[nu (n : Int)] 95))
  have c := H0.out.nums [n] #[nu (n : Int)] rfl 1 rfl (by decide) (by simpa using hn) hl
  rw [World.size_alloc] at c
  have C := Hid.mk' c
  clear c
  have q0 := cell_at (j := 0) H0.out.blk rfl
  clear h H0
  go_enter Tryd.func107, Tryd.ntmps107
  go_wp2_with fail
  refine C.out.mono ?_
  rintro e w2 ⟨⟨u, rfl⟩, F2, hP⟩
  have HP := Hid.mk' hP
  clear hP q0
  go_wp2
  go_end0
  refine ⟨⟨_, rfl⟩, F2, ?_, HP.out.K, HP.out.go⟩
  have := HP.out.rw
  simpa using this

end Pe
end Ev
end Go.Proofs.YtnllplholfhbdaaDoor
