/- The calls of the program's disk, one by one. -/
import Derived.Test.YtlgjnefieflmbaaDoorDisk9
namespace Go.Proofs.YtlgjnefieflmbaaDoor
set_option linter.ambiguousOpen false
open Go.RowKit
namespace Dk
namespace Pd
open Sm Ft
set_option linter.unusedSimpArgs false
set_option linter.unusedVariables false

theorem failing_any (w : World) (n : Int) : Calls Tryd.prog 34 #[nu n] w fun e w' => e = .returned (.func (.func 54) #[] #[ptr w.heap.size]) ∧ w' = w.alloc (.cells #[nu n] 3) := by
  have hmf : ∀ fn first cap w, (Instr.makeFunc fn first cap).run Tryd.prog w = .ok (.func fn first cap) w := fun _ _ _ _ => rfl
  go_enter Tryd.func34, Tryd.ntmps34
  go_wp2
  go_ret
  exact ⟨rfl, rfl⟩

theorem powered_any (w : World) : Calls Tryd.prog 48 #[] w fun e w' => e = .returned (.func (.func 72) #[] #[]) ∧ w' = w := by
  go_enter Tryd.func48, Tryd.ntmps48
  go_wp2
  go_ret
  exact ⟨rfl, rfl⟩

theorem on_any (w : World) (p bg bc : Nat) (tv fv : Value) (d : Dsk) (i : Int) (s : List UInt8) (h : Sd w p bg bc tv fv none d) (hi : 0 ≤ i ∧ i < d.n) (hl : d.tr.length ≤ 1000000000) (hs : s.length ≤ 256) :
    Calls Tryd.prog 72 #[ptr p, nu i, .string (tx s)] w fun e w' => e = .returned (nu 0) ∧ ∃ tv', Sd w' p bg bc tv' fv none ⟨d.n, d.left, d.tr ++ [(i, s)]⟩ ∧ Keep (fp p bg tv none) w w' ∧ MovesT w tv tv' := by
  have c := Hid.mk' (put_any w p bg bc tv fv none d i s h hi hl hs)
  clear h
  generalize tx s = f at *
  go_enter Tryd.func72, Tryd.ntmps72
  go_wp2_with fail
  refine c.out.mono ?_
  rintro e w1 ⟨⟨u, rfl⟩, hq⟩
  have hQ := Hid.mk' hq
  clear hq c
  go_wp2
  go_ret
  exact ⟨rfl, hQ.out⟩

theorem off_no (w : World) (p b : Nat) (i : Int) (f : ByteArray) (h : w.heap[b]? = some (.cells #[nu 0] 3)) :
    Calls Tryd.prog 54 #[ptr p, nu i, .string f, ptr b] w fun e w' => e = .returned (nu 22) ∧ w' = w := by
  have q0 : w.cell? ⟨b, 0, none⟩ = some (nu 0) := by simp [World.cell?, h]
  clear h
  go_enter Tryd.func54, Tryd.ntmps54
  go_wp2
  go_ret
  exact ⟨rfl, rfl⟩

theorem off_yes (w : World) (p bg bc b : Nat) (tv fv : Value) (d : Dsk) (i : Int) (s : List UInt8) (h : Sd w p bg bc tv fv (some b) d) (hd : 0 < d.left) (hi : 0 ≤ i ∧ i < d.n) (hl : d.tr.length ≤ 1000000000) (hs : s.length ≤ 256) :
    Calls Tryd.prog 54 #[ptr p, nu i, .string (tx s), ptr b] w fun e w' => e = .returned (nu 0) ∧ ∃ tv', Sd w' p bg bc tv' fv (some b) ⟨d.n, d.left - 1, d.tr ++ [(i, s)]⟩ ∧ Keep (fp p bg tv (some b)) w w' ∧ MovesT w tv tv' := by
  obtain ⟨hr, _, hb⟩ := h.pwr
  have q0 : w.cell? ⟨b, 0, none⟩ = some (nu d.left) := by simp [World.cell?, hb]
  have qf : w.frozen? ⟨b, 0, none⟩ = false := by simp [World.frozen?, hb]
  obtain ⟨h1, hk1⟩ := h.count (m := d.left - 1) (by omega)
  have c := Hid.mk' (put_any _ p bg bc tv fv (some b) ⟨d.n, d.left - 1, d.tr⟩ i s h1 hi hl hs)
  have HK := Hid.mk' hk1
  have hz : Hid ((w.setCell ⟨b, 0, none⟩ (nu (d.left - 1))).heap.size = w.heap.size) := by show _ = _; simp [World.setCell]
  have hd0 : (d.left == 0) = false := by simp; omega
  clear h h1 hk1 hb
  generalize tx s = f at *
  go_enter Tryd.func54, Tryd.ntmps54
  go_wp2_with fail
  refine c.out.mono ?_
  rintro e w1 ⟨⟨u, rfl⟩, hq⟩
  have hQ := Hid.mk' hq
  clear hq c
  go_wp2
  go_ret
  obtain ⟨tv', a1, a2, a3⟩ := hQ.out
  exact ⟨rfl, tv', a1, HK.out.trans a2 (fun _ _ hk => hk), fun k hk => by
    rcases a3 k hk with h | h
    · exact .inl h
    · exact .inr (by rw [hz.out] at h; exact h)⟩

set_option maxHeartbeats 1000000 in
theorem write_any (w : World) (p bg bc : Nat) (tv fv : Value) (pw : Option Nat) (d : Dsk) (i : Int) (s : List UInt8) (h : Sd w p bg bc tv fv pw d) (hl : d.tr.length ≤ 1000000000) (hs : s.length ≤ maxLen) :
    Calls Tryd.prog 11 #[ptr p, nu i, .string (tx s)] w fun e w' => e = .returned (errE (wrN d i s)) ∧ ∃ tv', Sd w' p bg bc tv' fv pw (wrD d i s) ∧ Keep (fp p bg tv pw) w w' ∧ MovesT w tv tv' := by
  have c1 := has_any w p bg bc tv fv pw d i h
  have hsz : (tx s).size = s.length := rfl
  have HS := Hid.mk' h
  unfold maxLen at hs
  obtain ⟨q0, q1, q2⟩ := h.cells
  by_cases hi : ¬ (0 ≤ i ∧ i < d.n)
  · have hn : Hid (wrN d i s = 1) := by unfold wrN; rw [if_neg hi]; rfl
    have hD : Hid (wrD d i s = d) := by unfold wrD; rw [hn.out, if_neg (by decide)]; rfl
    rw [decide_eq_false hi] at c1
    generalize tx s = f at *
    clear h q0 q1 q2
    go_enter Tryd.func11, Tryd.ntmps11
    go_wp2_with fail
    refine c1.mono ?_
    rintro e w' ⟨rfl, hw⟩
    subst w'
    go_wp2
    go_ret
    exact ⟨by rw [hn.out]; rfl, tv, by rw [hD.out]; exact HS.out, Keep.refl _ _, fun _ h => .inl h⟩
  have hi := Decidable.not_not.1 hi
  rw [decide_eq_true hi] at c1
  by_cases h3 : 256 < s.length
  · have hn : Hid (wrN d i s = 3) := by unfold wrN; rw [if_pos hi, if_pos h3]; rfl
    have hD : Hid (wrD d i s = d) := by unfold wrD; rw [hn.out, if_neg (by decide)]; rfl
    generalize tx s = f at *
    clear h q0 q1 q2 hi
    go_enter Tryd.func11, Tryd.ntmps11
    go_wp2_with fail
    refine c1.mono ?_
    rintro e w' ⟨rfl, hw⟩
    subst w'
    go_wp2
    go_ret
    exact ⟨by rw [hn.out]; rfl, tv, by rw [hD.out]; exact HS.out, Keep.refl _ _, fun _ h => .inl h⟩
  have hl' : ¬ (256 : Int) < (s.length : Int) := by omega
  cases pw with
  | none =>
    obtain ⟨hm, rfl⟩ := h.pwr
    have hn : Hid (wrN d i s = 0) := by unfold wrN; rw [if_pos hi, if_neg h3, if_neg (by omega)]; rfl
    have hD : Hid (wrD d i s = ⟨d.n, d.left, d.tr ++ [(i, s)]⟩) := by unfold wrD; rw [hn.out, if_pos rfl, if_neg (by omega)]; rfl
    have c2 := Hid.mk' (on_any w p bg bc tv _ d i s h hi hl (by omega))
    generalize tx s = f at *
    clear h hi hm
    go_enter Tryd.func11, Tryd.ntmps11
    go_wp2_with fail
    refine c1.mono ?_
    rintro e w' ⟨rfl, hw⟩
    subst w'
    go_wp2_with fail
    refine c2.out.mono ?_
    rintro e w1 ⟨rfl, hq⟩
    have HQ := Hid.mk' hq
    clear hq q0 q1 q2
    go_wp2
    go_ret
    exact ⟨by rw [hn.out]; rfl, by rw [hD.out]; exact HQ.out⟩
  | some b =>
    obtain ⟨hm, rfl, hb⟩ := h.pwr
    by_cases h4 : d.left = 0
    · have hn : Hid (wrN d i s = 22) := by unfold wrN; rw [if_pos hi, if_neg h3, if_pos h4]; rfl
      have hD : Hid (wrD d i s = d) := by unfold wrD; rw [hn.out, if_neg (by decide)]; rfl
      rw [h4] at hb
      have c2 := Hid.mk' (off_no w p b i (tx s) hb)
      generalize tx s = f at *
      clear h hi hm hb h4
      go_enter Tryd.func11, Tryd.ntmps11
      go_wp2_with fail
      refine c1.mono ?_
      rintro e w' ⟨rfl, hw⟩
      subst w'
      go_wp2_with fail
      refine c2.out.mono ?_
      rintro e w' ⟨rfl, hw⟩
      subst w'
      go_wp2
      go_ret
      exact ⟨by rw [hn.out]; rfl, tv, by rw [hD.out]; exact HS.out, Keep.refl _ _, fun _ h => .inl h⟩
    · have hn : Hid (wrN d i s = 0) := by unfold wrN; rw [if_pos hi, if_neg h3, if_neg h4]; rfl
      have hD : Hid (wrD d i s = ⟨d.n, d.left - 1, d.tr ++ [(i, s)]⟩) := by unfold wrD; rw [hn.out, if_pos rfl, if_pos (by omega)]; rfl
      have c2 := Hid.mk' (off_yes w p bg bc b tv _ d i s h (by omega) hi hl (by omega))
      generalize tx s = f at *
      clear h hi hm hb h4
      go_enter Tryd.func11, Tryd.ntmps11
      go_wp2_with fail
      refine c1.mono ?_
      rintro e w' ⟨rfl, hw⟩
      subst w'
      go_wp2_with fail
      refine c2.out.mono ?_
      rintro e w1 ⟨rfl, hq⟩
      have HQ := Hid.mk' hq
      clear hq q0 q1 q2
      go_wp2
      go_ret
      exact ⟨by rw [hn.out]; rfl, by rw [hD.out]; exact HQ.out⟩

theorem restore_any (w : World) (p bg bc : Nat) (tv fv : Value) (pw : Option Nat) (d : Dsk) (h : Sd w p bg bc tv fv pw d) :
    Calls Tryd.prog 33 #[ptr p] w fun e w' => (∃ u, e = .returned u) ∧ ∃ fv' pw', Sd w' p bg bc tv fv' pw' ⟨d.n, -1, d.tr⟩ ∧ Keep (fp p bg tv pw) w w' ∧ Goes w (fp p bg tv pw) (fp p bg tv pw') := by
  have c1 := Hid.mk' (powered_any w)
  have HT : Hid _ := Hid.mk' (h.turn (fv' := .func (.func 72) #[] #[]) (pw' := none) (m := -1) (Below.refl _ w) ⟨rfl, rfl⟩ (fun b e => by cases e))
  obtain ⟨q0, q1, q2⟩ := h.cells
  have qf := h.free
  clear h
  go_enter Tryd.func33, Tryd.ntmps33
  go_wp2_with fail
  refine c1.out.mono ?_
  rintro e w' ⟨rfl, hw⟩
  subst w'
  go_wp2
  go_end0
  exact ⟨⟨_, rfl⟩, _, _, HT.out⟩

theorem cut_any (w : World) (p bg bc : Nat) (tv fv : Value) (pw : Option Nat) (d : Dsk) (n : Int) (h : Sd w p bg bc tv fv pw d) (hn : -9223372036854775808 ≤ n ∧ n ≤ 9223372036854775807) :
    Calls Tryd.prog 13 #[ptr p, nu n] w fun e w' => (∃ u, e = .returned u) ∧ ∃ fv' pw', Sd w' p bg bc tv fv' pw' ⟨d.n, max n (-1), d.tr⟩ ∧ Keep (fp p bg tv pw) w w' ∧ Goes w (fp p bg tv pw) (fp p bg tv pw') := by
  by_cases h0 : n < 0
  · have hm : Hid (max n (-1) = -1) := by show _ = _; omega
    have c1 := Hid.mk' (restore_any w p bg bc tv fv pw d h)
    clear h
    go_enter Tryd.func13, Tryd.ntmps13
    go_wp2_with fail
    refine c1.out.mono ?_
    rintro e w' ⟨⟨u, rfl⟩, hq⟩
    have HQ := Hid.mk' hq
    clear hq c1
    go_wp2
    refine bodyPost_ret (results_none rfl _ _ _) rfl ?_
    exact ⟨⟨_, rfl⟩, by rw [hm.out]; exact HQ.out⟩
  · have hm : Hid (max n (-1) = n) := by show _ = _; omega
    have c1 := Hid.mk' (failing_any w n)
    have HT : Hid _ := Hid.mk' (h.turn (w' := w.alloc (.cells #[nu n] 3)) (fv' := .func (.func 54) #[] #[ptr w.heap.size]) (pw' := some w.heap.size) (m := n) ((Below.refl _ w).alloc (Nat.le_refl _) _) ⟨by omega, rfl, heap_alloc_new _ _⟩ (fun b e => by cases e; exact Nat.le_refl _))
    have hp := h.lt p (.inl rfl)
    have h1 := h.below ((Below.refl _ w).alloc (Nat.le_refl _) (.cells #[nu n] 3))
    obtain ⟨q0, q1, q2⟩ := h1.cells
    have qf := h1.free
    clear h h1 hp
    generalize w.alloc (.cells #[nu n] 3) = wa at *
    go_enter Tryd.func13, Tryd.ntmps13
    go_wp2_with fail
    refine c1.out.mono ?_
    rintro e w' ⟨rfl, hw⟩
    subst w'
    go_wp2
    go_end0
    exact ⟨⟨_, rfl⟩, _, _, by rw [hm.out]; exact HT.out⟩

theorem blocks_any (w : World) (p bg bc : Nat) (tv fv : Value) (pw : Option Nat) (d : Dsk) (h : Sd w p bg bc tv fv pw d) :
    Calls Tryd.prog 69 #[ptr p] w fun e w' => e = .returned (nu d.n) ∧ w' = w := by
  obtain ⟨q0, q1, q2⟩ := h.cells
  have hn := h.num
  obtain ⟨n, hnn⟩ : ∃ n : Nat, d.n.toNat = n := ⟨_, rfl⟩
  have hnI : Hid (d.n = (n : Int)) := by show _ = _; omega
  rw [hnn] at q0
  clear h hn hnn
  go_enter Tryd.func69, Tryd.ntmps69
  go_wp2
  go_ret
  exact ⟨by rw [hnI.out]; rfl, rfl⟩

theorem writes_any (w : World) (p bg bc : Nat) (tv fv : Value) (pw : Option Nat) (d : Dsk) (h : Sd w p bg bc tv fv pw d) :
    Calls Tryd.prog 17 #[ptr p] w fun e w' => e = .returned (nu d.tr.length) ∧ w' = w := by
  obtain ⟨q0, q1, q2⟩ := h.cells
  obtain ⟨a, cap, rfl, _, _⟩ := h.trv
  clear h
  go_enter Tryd.func17, Tryd.ntmps17
  go_wp2
  go_ret
  exact ⟨rfl, rfl⟩

theorem lastK_len (i : Int) (l : List Raw) (h : ∀ r ∈ l, r.2.length ≤ 256) (k : Nat) : (lastK i l k).length ≤ 256 := by
  induction k with
  | zero => simp [lastK]
  | succ k ih =>
    rw [lastK]
    cases hk : l[k]? with
    | none => exact ih
    | some r =>
      show (if r.1 = i then r.2 else lastK i l k).length ≤ 256
      split
      · exact h r (List.mem_of_getElem? hk)
      · exact ih

theorem read_any (w : World) (p bg bc : Nat) (tv fv : Value) (pw : Option Nat) (d : Dsk) (i : Int) (h : Sd w p bg bc tv fv pw d) :
    Calls Tryd.prog 61 #[ptr p, nu i] w fun e w' => e = .returned (.tuple #[.string (tx (rdT d i)), errE (rdN d i)]) ∧ Below w.heap.size w w' := by
  have c1 := has_any w p bg bc tv fv pw d i h
  obtain ⟨q0, q1, q2⟩ := h.cells
  by_cases hi : ¬ (0 ≤ i ∧ i < d.n)
  · have ht : Hid (rdT d i = []) := by unfold rdT; rw [if_neg hi]; rfl
    have hn : Hid (rdN d i = 1) := by unfold rdN; rw [if_neg hi]; rfl
    rw [decide_eq_false hi] at c1
    clear h q0 q1 q2
    go_enter Tryd.func61, Tryd.ntmps61
    go_wp2_with fail
    refine c1.mono ?_
    rintro e w' ⟨rfl, hw⟩
    subst w'
    go_wp2
    go_ret2
    exact ⟨by rw [ht.out, hn.out]; rfl, Below.refl _ _⟩
  have hi := Decidable.not_not.1 hi
  rw [decide_eq_true hi] at c1
  have hn : Hid (rdN d i = 0) := by unfold rdN; rw [if_pos hi]; rfl
  obtain ⟨t0, tf⟩ := h.text i hi
  have hlen : (rdT d i).length ≤ 256 := by unfold rdT; rw [if_pos hi]; exact lastK_len _ _ (fun r hr => (h.ok r hr).2) _
  have c2 : Hid (∀ wx, Calls Tryd.prog 42 #[.string (tx (rdT d i))] wx fun e w' => e = .returned (.string (tx (rdT d i))) ∧ Below wx.heap.size wx w') := fun wx => clone_s _ _ (Nat.le_trans hlen (by decide))
  have hnum := h.num
  obtain ⟨n, hnn⟩ : ∃ n : Nat, d.n.toNat = n := ⟨_, rfl⟩
  obtain ⟨k, hk⟩ : ∃ k : Nat, i = (k : Int) := ⟨i.toNat, by omega⟩
  have hkn : k < n := by omega
  subst hk
  rw [Int.toNat_natCast] at t0 tf
  rw [hnn] at q0
  clear h hnum hnn hi hlen
  obtain ⟨f, hf⟩ : ∃ f, tx (rdT d (k : Int)) = f := ⟨_, rfl⟩
  rw [hf] at t0 ⊢
  rw [hf] at c2
  clear hf
  go_enter Tryd.func61, Tryd.ntmps61
  go_wp2_with fail
  refine c1.mono ?_
  rintro e w' ⟨rfl, hw⟩
  subst w'
  go_wp2_with fail
  refine (c2.out _).mono ?_
  rintro e w1 ⟨rfl, hb⟩
  have HB := Hid.mk' hb
  clear hb
  go_wp2
  go_ret2
  exact ⟨by rw [hn.out]; rfl, HB.out⟩
end Pd
end Dk
end Go.Proofs.YtlgjnefieflmbaaDoor
