import Derived.Test.YtnllplholfhbdaaDoorPlainE
import Derived.Test.YtnllplholfhbdaaDoorDecM
import Derived.Test.YtnllplholfhbdaaDoorLentB
import Derived.Test.YtnllplholfhbdaaDoorListsY
/- EventDecodes. -/
namespace Go.Proofs.YtnllplholfhbdaaDoor
set_option linter.ambiguousOpen false
open Go.RowKit
namespace Ev
open Pk Sm Ft
set_option linter.unusedSimpArgs false
set_option linter.unusedVariables false

set_option maxRecDepth 100000 in
set_option maxHeartbeats 8000000 in
theorem decodes_yes (R : Says) (v : Value) (b : List UInt8) (w : World) (hR : RdB w v b) (hg : Er.Handle w) :
    Calls Tryd.prog 4 #[v] w fun e w' => e = .returned (.bool true) ∧ Below w.heap.size w w' := by
  by_cases hl : 65536 < b.length
  · have hl' : (65536 : Int) < (b.length : Int) := by omega
    obtain ⟨a, cap, rfl, _⟩ := hR
    go_enter Tryd.func4, Tryd.ntmps4
    go_wp2
    go_ret
    exact ⟨rfl, Below.refl _ _⟩
  · have hl' : ¬ (65536 : Int) < (b.length : Int) := by omega
    have hlb : b.length ≤ 140737488351232 := by omega
    have c1 := Hid.mk' (decode_ref w v b hR)
    have c2 : Hid (∀ wx, Below w.heap.size w wx → Calls Tryd.prog 13 #[v] wx fun e w' => ∃ g cap, e = .returned (.slice (some ⟨g, 0, none⟩) b.length cap) ∧ b.length + 16 ≤ cap ∧ cap ≤ maxLen ∧ w'.ownsRow wx.heap.size 5 1 (.slice (some ⟨g, 0, none⟩) (b.length + 16) cap) (b.length + 16) ((b ++ mksB 16).map by1) ∧ Below wx.heap.size wx w') := fun wx hb => lentB_any v b wx (hR.below hb) hlb
    have c3 : Hid (∀ wx u, RdB wx u b → Calls Tryd.prog 14 #[u] wx fun x w' => x = .returned (.tuple #[.agg (decE b).1.arr, errE (decE b).2]) ∧ Below wx.heap.size wx w') := fun wx u h => R.decode wx u b h (by omega)
    have c4 : Hid (∀ wx, Er.Handle wx → Calls Tryd.prog 9 #[errE (decE b).2, nu ((decE b).2 : Int)] wx fun e w' => e = .returned (.bool true) ∧ Below wx.heap.size wx w') := fun wx h => plainV _ (dec_le b) wx h
    have c5 : Hid (∀ wx g cap base, Below w.heap.size w wx → b.length + 16 ≤ cap → cap ≤ maxLen → wx.ownsRow base 5 1 (.slice (some ⟨g, 0, none⟩) (b.length + 16) cap) (b.length + 16) ((b ++ mksB 16).map by1) → g < wx.heap.size → Calls Tryd.prog 15 #[.slice (some ⟨g, 0, none⟩) b.length cap, v] wx fun e w' => e = .returned (.bool true) ∧ Below wx.heap.size wx w') := fun wx g cap base hb h1 h2 h3 h4 => keptB_any v b g cap base wx (hR.below hb) hlb h1 h2 h3 h4
    have HG := Hid.mk' hg
    obtain ⟨a, cap0, rfl, _⟩ := hR
    obtain ⟨⟨ek, ⟨slot, birth, us, ub, kind, user, label, scopes, level, born, deadline, depth⟩, eb, et⟩, no, hd⟩ : ∃ e no, decE b = (e, no) := ⟨_, _, rfl⟩
    rw [hd] at c1 c3 c4
    simp only at c1 c3 c4
    have hsame := fun wx => evt_same ⟨ek, ⟨slot, birth, us, ub, kind, user, label, scopes, level, born, deadline, depth⟩, eb, et⟩ wx
    unfold Evt.arr at c1 c3 hsame
    simp only at c1 c3 hsame
    obtain ⟨fu, hfu⟩ : ∃ f, tx user = f := ⟨_, rfl⟩
    obtain ⟨fl, hfl⟩ : ∃ f, tx label = f := ⟨_, rfl⟩
    simp only [hfu, hfl] at c1 c3 hsame
    obtain ⟨er, her⟩ : ∃ er, errE no = er := ⟨_, rfl⟩
    rw [her] at c3 c4
    have hsh : er = .nilIface ∨ ∃ t v, er = .iface t v := by
      rw [← her]
      cases no with
      | zero => exact .inl rfl
      | succ n => exact .inr ⟨_, _, rfl⟩
    clear hfu hfl hd her hl hg hlb
    go_enter Tryd.func4, Tryd.ntmps4
    go_wp2_with fail
    refine c1.out.mono ?_
    rintro e x1 ⟨rfl, hb1⟩
    have HB1 : Hid (Below w.heap.size w (x1.alloc (.cells #[nu ek, nu slot, nu birth, nu us, nu ub, nu kind, .string fu, .string fl, .int .u64 scopes, nu level, nu born, nu deadline, nu depth, nu eb, nu et] 29))) := hb1.alloc hb1.size _
    have HE1 : Hid ((x1.alloc (.cells #[nu ek, nu slot, nu birth, nu us, nu ub, nu kind, .string fu, .string fl, .int .u64 scopes, nu level, nu born, nu deadline, nu depth, nu eb, nu et] 29)).heap[x1.heap.size]? = some (.cells #[nu ek, nu slot, nu birth, nu us, nu ub, nu kind, .string fu, .string fl, .int .u64 scopes, nu level, nu born, nu deadline, nu depth, nu eb, nu et] 29)) := heap_alloc_new _ _
    clear hb1 c1
    go_wp2_with fail
    refine (c2.out _ HB1.out).mono ?_
    rintro e x2 ⟨g, cap, rfl, hc1, hc2, ho2, hb2⟩
    have HO2 := Hid.mk' ho2
    have hgl := (ho2.lt g rfl).2
    have HB2 := Hid.mk' (HB1.out.trans (hb2.mono HB1.out.size))
    have HE2 := Hid.mk' ((hb2.block _ (Array.getElem?_eq_some_iff.1 HE1.out).1).trans HE1.out)
    have HR2 := Hid.mk' (rdB_lent ho2 hc1 hc2 hgl)
    have HC2 := Hid.mk' hc2
    have HGL := Hid.mk' hgl
    have HC1 := Hid.mk' hc1
    clear ho2 hb2 hgl hc2 hc1 c2 HB1 HE1
    go_wp2_with fail
    refine (c3.out _ _ HR2.out).mono ?_
    rintro e x3 ⟨rfl, hb3⟩
    have hb3a : Below x2.heap.size x2 (x3.alloc (.cells #[nu ek, nu slot, nu birth, nu us, nu ub, nu kind, .string fu, .string fl, .int .u64 scopes, nu level, nu born, nu deadline, nu depth, nu eb, nu et] 29)) := hb3.alloc hb3.size _
    have HB3 := Hid.mk' (HB2.out.trans (hb3a.mono HB2.out.size))
    have HE3 := Hid.mk' ((hb3a.block _ (Array.getElem?_eq_some_iff.1 HE2.out).1).trans HE2.out)
    have HF3 : Hid ((x3.alloc (.cells #[nu ek, nu slot, nu birth, nu us, nu ub, nu kind, .string fu, .string fl, .int .u64 scopes, nu level, nu born, nu deadline, nu depth, nu eb, nu et] 29)).heap[x3.heap.size]? = some (.cells #[nu ek, nu slot, nu birth, nu us, nu ub, nu kind, .string fu, .string fl, .int .u64 scopes, nu level, nu born, nu deadline, nu depth, nu eb, nu et] 29)) := heap_alloc_new _ _
    have HR3 := Hid.mk' (HR2.out.below hb3a)
    have HO3 := Hid.mk' (own_keptB HO2.out hb3a)
    have HGL3 : Hid (g < (x3.alloc (.cells #[nu ek, nu slot, nu birth, nu us, nu ub, nu kind, .string fu, .string fl, .int .u64 scopes, nu level, nu born, nu deadline, nu depth, nu eb, nu et] 29)).heap.size) := Nat.lt_of_lt_of_le HGL.out hb3a.size
    clear hb3 hb3a HB2 HE2 HR2 HO2 HGL
    go_wp2_with fail
    refine (c3.out _ _ HR3.out).mono ?_
    rintro e x4 ⟨rfl, hb4⟩
    have hb4a := hb4.alloc hb4.size (.cells #[nu ek, nu slot, nu birth, nu us, nu ub, nu kind, .string fu, .string fl, .int .u64 scopes, nu level, nu born, nu deadline, nu depth, nu eb, nu et] 29)
    have HB4 := Hid.mk' (HB3.out.trans (hb4a.mono HB3.out.size))
    have HE4 := Hid.mk' ((hb4a.block _ (Array.getElem?_eq_some_iff.1 HE3.out).1).trans HE3.out)
    have HF4 := Hid.mk' ((hb4a.block _ (Array.getElem?_eq_some_iff.1 HF3.out).1).trans HF3.out)
    have HH4 : Hid ((x4.alloc (.cells #[nu ek, nu slot, nu birth, nu us, nu ub, nu kind, .string fu, .string fl, .int .u64 scopes, nu level, nu born, nu deadline, nu depth, nu eb, nu et] 29)).heap[x4.heap.size]? = some (.cells #[nu ek, nu slot, nu birth, nu us, nu ub, nu kind, .string fu, .string fl, .int .u64 scopes, nu level, nu born, nu deadline, nu depth, nu eb, nu et] 29)) := heap_alloc_new _ _
    have HO4 := Hid.mk' (own_keptB HO3.out hb4a)
    have HGL4 : Hid (g < (x4.alloc (.cells #[nu ek, nu slot, nu birth, nu us, nu ub, nu kind, .string fu, .string fl, .int .u64 scopes, nu level, nu born, nu deadline, nu depth, nu eb, nu et] 29)).heap.size) := Nat.lt_of_lt_of_le HGL3.out hb4a.size
    clear hb4 hb4a HB3 HE3 HF3 HR3 HO3 HGL3 c3
    go_upto_region 7 with fail
    generalize hx5 : x4.alloc (.cells #[nu ek, nu slot, nu birth, nu us, nu ub, nu kind, .string fu, .string fl, .int .u64 scopes, nu level, nu born, nu deadline, nu depth, nu eb, nu et] 29) = x5 at *
    clear hx5
    have HG5 := Hid.mk' (HG.out.below HB4.out)
    rcases hsh with rfl | ⟨et1, ev1, rfl⟩ <;> (
      go_wp2_with fail
      refine (c4.out _ HG5.out).mono ?_
      rintro e x6 ⟨rfl, hb6⟩
      have HG6 := Hid.mk' (HG5.out.below hb6)
      have HB6 := Hid.mk' (HB4.out.trans (hb6.mono HB4.out.size))
      have HE6 := Hid.mk' ((hb6.block _ (Array.getElem?_eq_some_iff.1 HE4.out).1).trans HE4.out)
      have HF6 := Hid.mk' ((hb6.block _ (Array.getElem?_eq_some_iff.1 HF4.out).1).trans HF4.out)
      have HH6 := Hid.mk' ((hb6.block _ (Array.getElem?_eq_some_iff.1 HH4.out).1).trans HH4.out)
      have HO6 := Hid.mk' (own_keptB HO4.out hb6)
      have HGL6 := Hid.mk' (Nat.lt_of_lt_of_le HGL4.out hb6.size)
      clear hb6 HG5 HB4 HE4 HF4 HH4 HO4 HGL4
      go_wp2_with fail
      refine (c4.out _ HG6.out).mono ?_
      rintro e x7 ⟨rfl, hb7⟩
      have HB7 := Hid.mk' (HB6.out.trans (hb7.mono HB6.out.size))
      have he7 := (hb7.block _ (Array.getElem?_eq_some_iff.1 HE6.out).1).trans HE6.out
      have hf7 := (hb7.block _ (Array.getElem?_eq_some_iff.1 HF6.out).1).trans HF6.out
      have hh7 := (hb7.block _ (Array.getElem?_eq_some_iff.1 HH6.out).1).trans HH6.out
      have HO7 := Hid.mk' (own_keptB HO6.out hb7)
      have HGL7 := Hid.mk' (Nat.lt_of_lt_of_le HGL6.out hb7.size)
      have m0 := cell_at (j := 0) he7 rfl
      have m1 := cell_at (j := 1) he7 rfl
      have m2 := cell_at (j := 2) he7 rfl
      have m3 := cell_at (j := 3) he7 rfl
      have m4 := cell_at (j := 4) he7 rfl
      have m5 := cell_at (j := 5) he7 rfl
      have m6 := cell_at (j := 6) he7 rfl
      have m7 := cell_at (j := 7) he7 rfl
      have m8 := cell_at (j := 8) he7 rfl
      have m9 := cell_at (j := 9) he7 rfl
      have m10 := cell_at (j := 10) he7 rfl
      have m11 := cell_at (j := 11) he7 rfl
      have m12 := cell_at (j := 12) he7 rfl
      have m13 := cell_at (j := 13) he7 rfl
      have m14 := cell_at (j := 14) he7 rfl
      have n0 := cell_at (j := 0) hf7 rfl
      have n1 := cell_at (j := 1) hf7 rfl
      have n2 := cell_at (j := 2) hf7 rfl
      have n3 := cell_at (j := 3) hf7 rfl
      have n4 := cell_at (j := 4) hf7 rfl
      have n5 := cell_at (j := 5) hf7 rfl
      have n6 := cell_at (j := 6) hf7 rfl
      have n7 := cell_at (j := 7) hf7 rfl
      have n8 := cell_at (j := 8) hf7 rfl
      have n9 := cell_at (j := 9) hf7 rfl
      have n10 := cell_at (j := 10) hf7 rfl
      have n11 := cell_at (j := 11) hf7 rfl
      have n12 := cell_at (j := 12) hf7 rfl
      have n13 := cell_at (j := 13) hf7 rfl
      have n14 := cell_at (j := 14) hf7 rfl
      have o0 := cell_at (j := 0) hh7 rfl
      have o1 := cell_at (j := 1) hh7 rfl
      have o2 := cell_at (j := 2) hh7 rfl
      have o3 := cell_at (j := 3) hh7 rfl
      have o4 := cell_at (j := 4) hh7 rfl
      have o5 := cell_at (j := 5) hh7 rfl
      have o6 := cell_at (j := 6) hh7 rfl
      have o7 := cell_at (j := 7) hh7 rfl
      have o8 := cell_at (j := 8) hh7 rfl
      have o9 := cell_at (j := 9) hh7 rfl
      have o10 := cell_at (j := 10) hh7 rfl
      have o11 := cell_at (j := 11) hh7 rfl
      have o12 := cell_at (j := 12) hh7 rfl
      have o13 := cell_at (j := 13) hh7 rfl
      have o14 := cell_at (j := 14) hh7 rfl
      clear hb7 he7 hf7 hh7 HG6 HB6 HE6 HF6 HH6 HO6 HGL6 c4
      go_wp2_with fail
      refine (c5.out _ _ _ _ HB7.out HC1.out HC2.out HO7.out HGL7.out).mono ?_
      rintro e x8 ⟨rfl, hb8⟩
      have HB8 := Hid.mk' (HB7.out.trans (hb8.mono HB7.out.size))
      clear hb8 m0 m1 m2 m3 m4 m5 m6 m7 m8 m9 m10 m11 m12 m13 m14 n0 n1 n2 n3 n4 n5 n6 n7 n8 n9 n10 n11 n12 n13 n14 o0 o1 o2 o3 o4 o5 o6 o7 o8 o9 o10 o11 o12 o13 o14
      go_wp2
      go_ret
      exact ⟨rfl, HB8.out⟩)
end Ev
end Go.Proofs.YtnllplholfhbdaaDoor
