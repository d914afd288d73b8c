import Derived.Test.YtnllplholfhbdaaDoorPutE11
/- What the program writes of a birth; where Encode's own event lies. -/
namespace Go.Proofs.YtnllplholfhbdaaDoor
set_option linter.ambiguousOpen false
open Go.RowKit
namespace Ev
namespace Pe
open Pk Sm Ft
open Pk.Pp (RW RR)
set_option linter.unusedSimpArgs false
set_option linter.unusedVariables false

set_option maxRecDepth 100000 in
set_option maxHeartbeats 8000000 in
theorem birth_put (s : Sn) (ok : s.ok) (w : World) (p : Nat) (F : Nat → Prop) (l : List UInt8) (h : RW w p F l) (hl : l.length ≤ 100) : Calls Tryd.prog 95 #[.agg s.arr, ptr p] w fun e w' => (∃ u, e = .returned u) ∧ ∃ F', RW w' p F' (l ++ encS s) ∧ Keep F w w' ∧ Goes w F F' := by
  obtain ⟨slot, birth, us, ub, skind, user, label, scopes, level, born, deadline, depth⟩ := s
  obtain ⟨o1, o2, o3, o4, o5, o6, o7, o8, o9, o10, o11, o12⟩ := ok
  simp only at o1 o2 o3 o4 o5 o6 o7 o8 o9 o10 o11 o12
  obtain ⟨slot, rfl⟩ := Int.eq_ofNat_of_zero_le o1.1
  obtain ⟨birth, rfl⟩ := Int.eq_ofNat_of_zero_le o2.1
  obtain ⟨us, rfl⟩ := Int.eq_ofNat_of_zero_le o3.1
  obtain ⟨ub, rfl⟩ := Int.eq_ofNat_of_zero_le o4.1
  obtain ⟨skind, rfl⟩ := Int.eq_ofNat_of_zero_le o5.1
  obtain ⟨scopes, rfl⟩ := Int.eq_ofNat_of_zero_le o8.1
  obtain ⟨level, rfl⟩ := Int.eq_ofNat_of_zero_le o9.1
  obtain ⟨born, rfl⟩ := Int.eq_ofNat_of_zero_le o10.1
  obtain ⟨deadline, rfl⟩ := Int.eq_ofNat_of_zero_le o11.1
  obtain ⟨depth, rfl⟩ := Int.eq_ofNat_of_zero_le o12.1
  have hE : Hid (((((l ++ [slot, birth, us, ub, skind].flatMap sev) ++ txt user) ++ txt label) ++ sev scopes) ++ [level, born, deadline, depth].flatMap sev = l ++ encS ⟨slot, birth, us, ub, skind, user, label, scopes, level, born, deadline, depth⟩) := by
    show _ = _
    simp [encS, sv, List.append_assoc]
  have n1 : ∀ m ∈ [slot, birth, us, ub, skind], m < 9223372036854775808 := by
    intro m hm
    simp at hm
    omega
  have n2 : ∀ m ∈ [level, born, deadline, depth], m < 9223372036854775808 := by
    intro m hm
    simp at hm
    omega
  have k1 := sevs_len _ n1
  have k2 := sevs_len _ n2
  have k3 := sev_le scopes (by omega)
  have k4 : (txt user).length ≤ 42 := by
    have := sev_le user.length (by omega)
    rw [txt, List.length_append]
    omega
  have k5 : (txt label).length ≤ 42 := by
    have := sev_le label.length (by omega)
    rw [txt, List.length_append]
    omega
  simp only [List.length_cons, List.length_nil] at k1 k2
  obtain ⟨l1, hl1⟩ : ∃ l1, l ++ [slot, birth, us, ub, skind].flatMap sev = l1 := ⟨_, rfl⟩
  obtain ⟨l2, hl2⟩ : ∃ l2, l1 ++ txt user = l2 := ⟨_, rfl⟩
  obtain ⟨l3, hl3⟩ : ∃ l3, l2 ++ txt label = l3 := ⟨_, rfl⟩
  obtain ⟨l4, hl4⟩ : ∃ l4, l3 ++ sev scopes = l4 := ⟨_, rfl⟩
  rw [hl1, hl2, hl3, hl4] at hE
  have b1 : l1.length ≤ 200 := by rw [← hl1, List.length_append]; omega
  have b2 : l2.length ≤ 300 := by rw [← hl2, List.length_append]; omega
  have b3 : l3.length ≤ 400 := by rw [← hl3, List.length_append]; omega
  have b4 : l4.length ≤ 500 := by rw [← hl4, List.length_append]; omega
  unfold Sn.arr
  simp only
  obtain ⟨fl, hfl⟩ : ∃ f, tx label = f := ⟨_, rfl⟩
  obtain ⟨fu, hfu⟩ : ∃ f, tx user = f := ⟨_, rfl⟩
  rw [hfl, hfu]
  have s0 := Pn.start h (.cells #[nu (slot : Int), nu (birth : Int), nu (us : Int), nu (ub : Int), nu (skind : Int), .string fu, .string fl, .int .u64 (scopes : Int), nu (level : Int), nu (born : Int), nu (deadline : Int), nu (depth : Int)] 91)
  have c1 := s0.nums [slot, birth, us, ub, skind] #[nu (slot : Int), nu (birth : Int), nu (us : Int), nu (ub : Int), nu (skind : Int)] rfl 5 rfl (by decide) n1 (by omega)
  rw [World.size_alloc, hl1] at c1
  have C1 := Hid.mk' c1
  have C2 : Hid (∀ wx Fx bx o wE FE, Pn wE wx p FE Fx l1 bx o → Calls Tryd.prog 101 #[ptr p, .string fu] wx fun e w' => (∃ u, e = .returned u) ∧ ∃ F', Pn wE w' p FE F' l2 bx o) := fun wx Fx bx o wE FE hp => by
    have := Pk.Pp.text_rw wx p Fx l1 user hp.rw (by rw [hl2]; omega)
    rw [hfu, hl2] at this
    exact this.mono fun e w' ⟨a, F', b, c, d⟩ => ⟨a, F', hp.call b c d⟩
  have C3 : Hid (∀ wx Fx bx o wE FE, Pn wE wx p FE Fx l2 bx o → Calls Tryd.prog 101 #[ptr p, .string fl] wx fun e w' => (∃ u, e = .returned u) ∧ ∃ F', Pn wE w' p FE F' l3 bx o) := fun wx Fx bx o wE FE hp => by
    have := Pk.Pp.text_rw wx p Fx l2 label hp.rw (by rw [hl3]; omega)
    rw [hfl, hl3] at this
    exact this.mono fun e w' ⟨a, F', b, c, d⟩ => ⟨a, F', hp.call b c d⟩
  have C4 : Hid (∀ wx Fx bx o wE FE, Pn wE wx p FE Fx l3 bx o → Calls Tryd.prog 27 #[ptr p, .int .u64 (scopes : Int)] wx fun e w' => (∃ u, e = .returned u) ∧ ∃ F', Pn wE w' p FE F' l4 bx o) := fun wx Fx bx o wE FE hp => by
    have := Pk.Pp.number_rw wx p Fx l3 scopes hp.rw (by omega) (by rw [hl4]; omega)
    rw [hl4] at this
    exact this.mono fun e w' ⟨a, F', b, c, d⟩ => ⟨a, F', hp.call b c d⟩
  have C5 : Hid (∀ wx Fx bx o wE FE, Pn wE wx p FE Fx l4 bx o → Calls Tryd.prog 100 #[ptr p, .slice (some ⟨wx.heap.size, 0, none⟩) 4 4] (wx.alloc (.cells #[nu (level : Int), nu (born : Int), nu (deadline : Int), nu (depth : Int)] 3)) fun e w' => (∃ u, e = .returned u) ∧ ∃ F', Pn wE w' p FE F' (l4 ++ [level, born, deadline, depth].flatMap sev) bx o) := fun wx Fx bx o wE FE hp => hp.nums [level, born, deadline, depth] _ rfl 4 rfl (by decide) n2 (by omega)
  have H0 := Hid.mk' s0
  clear c1 h hl1 hl2 hl3 hl4 hfl hfu k1 k2 k3 k4 k5 n1 n2 b1 b2 b3 b4 s0
  have q0 := cell_at (j := 0) H0.out.blk rfl
  have q1 := cell_at (j := 1) H0.out.blk rfl
  have q2 := cell_at (j := 2) H0.out.blk rfl
  have q3 := cell_at (j := 3) H0.out.blk rfl
  have q4 := cell_at (j := 4) H0.out.blk rfl
  have q5 := cell_at (j := 5) H0.out.blk rfl
  have q6 := cell_at (j := 6) H0.out.blk rfl
  have q7 := cell_at (j := 7) H0.out.blk rfl
  have q8 := cell_at (j := 8) H0.out.blk rfl
  have q9 := cell_at (j := 9) H0.out.blk rfl
  have q10 := cell_at (j := 10) H0.out.blk rfl
  have q11 := cell_at (j := 11) H0.out.blk rfl
  go_enter Tryd.func95, Tryd.ntmps95
  go_wp2_with fail
  refine C1.out.mono ?_
  rintro e x1 ⟨⟨u1, rfl⟩, F1, hP1⟩
  have HP1 := Hid.mk' hP1
  clear hP1 q0 q1 q2 q3 q4 q5 q6 q7 q8 q9 q10 q11
  have q0 := cell_at (j := 0) HP1.out.blk rfl
  have q1 := cell_at (j := 1) HP1.out.blk rfl
  have q2 := cell_at (j := 2) HP1.out.blk rfl
  have q3 := cell_at (j := 3) HP1.out.blk rfl
  have q4 := cell_at (j := 4) HP1.out.blk rfl
  have q5 := cell_at (j := 5) HP1.out.blk rfl
  have q6 := cell_at (j := 6) HP1.out.blk rfl
  have q7 := cell_at (j := 7) HP1.out.blk rfl
  have q8 := cell_at (j := 8) HP1.out.blk rfl
  have q9 := cell_at (j := 9) HP1.out.blk rfl
  have q10 := cell_at (j := 10) HP1.out.blk rfl
  have q11 := cell_at (j := 11) HP1.out.blk rfl
  have D2 := Hid.mk' (C2.out _ _ _ _ _ _ HP1.out)
  go_wp2_with fail
  refine D2.out.mono ?_
  rintro e x2 ⟨⟨u2, rfl⟩, F2, hP2⟩
  have HP2 := Hid.mk' hP2
  clear hP2 q0 q1 q2 q3 q4 q5 q6 q7 q8 q9 q10 q11
  have q0 := cell_at (j := 0) HP2.out.blk rfl
  have q1 := cell_at (j := 1) HP2.out.blk rfl
  have q2 := cell_at (j := 2) HP2.out.blk rfl
  have q3 := cell_at (j := 3) HP2.out.blk rfl
  have q4 := cell_at (j := 4) HP2.out.blk rfl
  have q5 := cell_at (j := 5) HP2.out.blk rfl
  have q6 := cell_at (j := 6) HP2.out.blk rfl
  have q7 := cell_at (j := 7) HP2.out.blk rfl
  have q8 := cell_at (j := 8) HP2.out.blk rfl
  have q9 := cell_at (j := 9) HP2.out.blk rfl
  have q10 := cell_at (j := 10) HP2.out.blk rfl
  have q11 := cell_at (j := 11) HP2.out.blk rfl
  have D3 := Hid.mk' (C3.out _ _ _ _ _ _ HP2.out)
  go_wp2_with fail
  refine D3.out.mono ?_
  rintro e x3 ⟨⟨u3, rfl⟩, F3, hP3⟩
  have HP3 := Hid.mk' hP3
  clear hP3 q0 q1 q2 q3 q4 q5 q6 q7 q8 q9 q10 q11
  have q0 := cell_at (j := 0) HP3.out.blk rfl
  have q1 := cell_at (j := 1) HP3.out.blk rfl
  have q2 := cell_at (j := 2) HP3.out.blk rfl
  have q3 := cell_at (j := 3) HP3.out.blk rfl
  have q4 := cell_at (j := 4) HP3.out.blk rfl
  have q5 := cell_at (j := 5) HP3.out.blk rfl
  have q6 := cell_at (j := 6) HP3.out.blk rfl
  have q7 := cell_at (j := 7) HP3.out.blk rfl
  have q8 := cell_at (j := 8) HP3.out.blk rfl
  have q9 := cell_at (j := 9) HP3.out.blk rfl
  have q10 := cell_at (j := 10) HP3.out.blk rfl
  have q11 := cell_at (j := 11) HP3.out.blk rfl
  have D4 := Hid.mk' (C4.out _ _ _ _ _ _ HP3.out)
  go_wp2_with fail
  refine D4.out.mono ?_
  rintro e x4 ⟨⟨u4, rfl⟩, F4, hP4⟩
  have HP4 := Hid.mk' hP4
  clear hP4 q0 q1 q2 q3 q4 q5 q6 q7 q8 q9 q10 q11
  have q0 := cell_at (j := 0) HP4.out.blk rfl
  have q1 := cell_at (j := 1) HP4.out.blk rfl
  have q2 := cell_at (j := 2) HP4.out.blk rfl
  have q3 := cell_at (j := 3) HP4.out.blk rfl
  have q4 := cell_at (j := 4) HP4.out.blk rfl
  have q5 := cell_at (j := 5) HP4.out.blk rfl
  have q6 := cell_at (j := 6) HP4.out.blk rfl
  have q7 := cell_at (j := 7) HP4.out.blk rfl
  have q8 := cell_at (j := 8) HP4.out.blk rfl
  have q9 := cell_at (j := 9) HP4.out.blk rfl
  have q10 := cell_at (j := 10) HP4.out.blk rfl
  have q11 := cell_at (j := 11) HP4.out.blk rfl
  have D5 := Hid.mk' (C5.out _ _ _ _ _ _ HP4.out)
  go_wp2_with fail
  refine D5.out.mono ?_
  rintro e x5 ⟨⟨u5, rfl⟩, F5, hP5⟩
  have HP5 := Hid.mk' hP5
  clear hP5 q0 q1 q2 q3 q4 q5 q6 q7 q8 q9 q10 q11
  go_wp2
  go_end0
  refine ⟨⟨_, rfl⟩, F5, ?_, HP5.out.K, HP5.out.go⟩
  rw [← hE.out]
  exact HP5.out.rw

/-- The event's block, and what lies below it. -/
structure Bx (w wx : World) (cs : Array Value) : Prop where
  blk : wx.heap[w.heap.size]? = some (.cells cs 29)
  bel : Below w.heap.size w wx

theorem Bx.drew {w wx : World} {cs : Array Value} (h : Bx w wx cs) : Bx w wx.drew cs := ⟨h.blk, h.bel.drew⟩

theorem Bx.call {w wx w' : World} {cs : Array Value} (h : Bx w wx cs) (hb : Below wx.heap.size wx w') : Bx w w' cs :=
  ⟨(hb.block _ (Array.getElem?_eq_some_iff.1 h.blk).1).trans h.blk, h.bel.trans (hb.mono h.bel.size)⟩

theorem Bx.start (w : World) (cs : Array Value) : Bx w (w.alloc (.cells cs 29)) cs := ⟨heap_alloc_new _ _, (Below.refl _ _).alloc (Nat.le_refl _) _⟩

theorem bytes_no (e : Evt) (h : mayE e = false) : bytesE e = [] := by
  rw [bytesE, h]
  rfl

theorem bytes_yes (e : Evt) (h : mayE e = true) : bytesE e = encE e := by
  rw [bytesE, h]
  rfl

/-- What is wanted of Encode. -/
def Wants (w : World) (e : Evt) : Prop := Calls Tryd.prog 8 #[.agg e.arr] w fun x w' => ∃ v, x = .returned (.tuple #[v, errE (if mayE e then 0 else 1)]) ∧ w'.ownsRow w.heap.size 5 1 v (bytesE e).length ((bytesE e).map by1) ∧ Below w.heap.size w w'

theorem wants_no (w : World) (e : Evt) (h : mayE e = false) (c : Calls Tryd.prog 8 #[.agg e.arr] w fun x w' => x = .returned (.tuple #[.slice none 0 0, noE 1]) ∧ Below w.heap.size w w') : Wants w e := by
  unfold Wants
  refine c.mono ?_
  rintro x w' ⟨rfl, hb⟩
  rw [h, bytes_no e h]
  exact ⟨_, rfl, World.ownsRow_nil _ _ _ _, hb⟩

end Pe
end Ev
end Go.Proofs.YtnllplholfhbdaaDoor
