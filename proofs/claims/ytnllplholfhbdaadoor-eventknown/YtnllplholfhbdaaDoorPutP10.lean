/- The program's writer: how it lies in memory, and what New, Number, Text, Bytes answer. -/
import Derived.Test.YtnllplholfhbdaaDoorPackP
import Derived.Test.YtnllplholfhbdaaDoorShelf
import Derived.Deep.AppendLies
import Derived.Laws.EntriesVeiled
import Derived.Deep.RegionHeld3
namespace Go.Proofs.YtnllplholfhbdaaDoor
set_option linter.ambiguousOpen false
open Go.RowKit
namespace Pk
namespace Pp
open Sm Ft
set_option linter.unusedSimpArgs false
set_option linter.unusedVariables false

/-- A writer of the program. -/
structure Wt (w : World) (p : Nat) (v : Value) (l : List UInt8) : Prop where
  blk : w.heap[p]? = some (.cells #[v] 99)
  row : w.ownsRow 0 5 1 v l.length (l.map by1)
  ne : v.ownBlock ≠ some p

def fpW (p : Nat) (v : Value) (k : Nat) : Prop := k = p ∨ v.ownBlock = some k

def RW (w : World) (p : Nat) (F : Nat → Prop) (l : List UInt8) : Prop := ∃ v, Wt w p v l ∧ F = fpW p v

theorem Wt.keep {G : Nat → Prop} {w w' : World} {p : Nat} {v : Value} {l : List UInt8} (h : Wt w p v l) (hk : Keep G w w') (hn : ∀ j, fpW p v j → ¬ G j) : Wt w' p v l :=
  ⟨hk.at h.blk (hn p (.inl rfl)), hk.own h.row (fun g hg => hn g (.inr hg)), h.ne⟩

theorem Wt.below {w w' : World} {p : Nat} {v : Value} {l : List UInt8} (h : Wt w p v l) (hb : Below w.heap.size w w') : Wt w' p v l :=
  h.keep (Keep.of_below (F := fun _ => False) hb) (fun _ _ h => h)

theorem Wt.lt {w : World} {p : Nat} {v : Value} {l : List UInt8} (h : Wt w p v l) (j : Nat) (hj : fpW p v j) : j < w.heap.size := by
  rcases hj with rfl | hj
  · exact (Array.getElem?_eq_some_iff.1 h.blk).1
  · exact (h.row.lt j hj).2

theorem Wt.cells {w : World} {p : Nat} {v : Value} {l : List UInt8} (h : Wt w p v l) : w.cell? ⟨p, 0, none⟩ = some v ∧ w.frozen? ⟨p, 0, none⟩ = false := by
  simp [World.cell?, World.frozen?, h.blk]

/-- Where the row lies behind a call: where it lay, or in what is new. -/
def MovesP (w : World) (v v' : Value) : Prop := ∀ k, v'.ownBlock = some k → v.ownBlock = some k ∨ w.heap.size ≤ k

theorem MovesP.refl (w : World) (v : Value) : MovesP w v v := fun _ h => .inl h

theorem MovesP.trans {w w1 : World} {v v1 v2 : Value} (h : MovesP w v v1) (k : MovesP w1 v1 v2) (hs : w.heap.size ≤ w1.heap.size) : MovesP w v v2 := fun i hi => by
  rcases k i hi with h1 | h1
  · exact h i h1
  · exact .inr (Nat.le_trans hs h1)

theorem goes_moves {w : World} {p : Nat} {v v' : Value} (h : MovesP w v v') : Goes w (fpW p v) (fpW p v') := fun k hk => by
  rcases hk with rfl | hk
  · exact .inl (.inl rfl)
  · rcases h k hk with h | h
    · exact .inl (.inr h)
    · exact .inr h

/-- A row that has grown is put where the old one lay. -/
theorem Wt.put {w wa w4 : World} {p : Nat} {v v' : Value} {l m : List UInt8} (h : Wt w p v l) (ha : Below w.heap.size w wa) (ho : w4.ownsRow 0 5 1 v' m.length (m.map by1)) (hg : wa.grownBy w4 v.ownBlock) (hv : v'.ownBlock = v.ownBlock ∨ v'.ownBlock = some wa.heap.size) :
    w4.heap[p]? = some (.cells #[v] 99) ∧ Wt (w4.setCell ⟨p, 0, none⟩ v') p v' m ∧ Keep (fpW p v) w (w4.setCell ⟨p, 0, none⟩ v') ∧ MovesP w v v' := by
  have lp := h.lt p (.inl rfl)
  have hK4 : Keep (fun k => v.ownBlock = some k) w w4 := (Keep.of_below ha).grown hg (fun k hk => .inl hk)
  have hb := hK4.at h.blk h.ne
  have hne : v'.ownBlock ≠ some p := by
    rcases hv with hv | hv
    · rw [hv]; exact h.ne
    · rw [hv]
      intro e
      have := ha.size
      simp at e
      omega
  have hKp : Keep (fun k => k = p) w4 (w4.setCell ⟨p, 0, none⟩ v') := (Keep.refl (fun k => k = p) w4).setCell (p := ⟨p, 0, none⟩) (.inl rfl) v'
  refine ⟨hb, ⟨heap_setCell_same _ p 0 _ _ _ hb, hKp.own ho (fun g hg e => hne (by rw [hg, e])), hne⟩, ?_, fun k hk => ?_⟩
  · exact (hK4.weaken (G := fpW p v) (fun k _ e => .inr e)).setCell (p := ⟨p, 0, none⟩) (.inl (.inl rfl)) _
  · rcases hv with hv | hv
    · rw [hv] at hk; exact .inl hk
    · rw [hv] at hk
      simp at hk
      have := ha.size
      exact .inr (by omega)

theorem new_any (w : World) : Calls Tryd.prog 26 #[] w fun e w' => ∃ p F, e = .returned (ptr p) ∧ RW w' p F [] ∧ (∀ k, F k → w.heap.size ≤ k) ∧ Below w.heap.size w w' := by
  go_enter Tryd.func26, Tryd.ntmps26
  go_wp2
  go_ret
  refine ⟨w.heap.size, _, rfl, ⟨.slice none 0 0, ⟨heap_alloc_new _ _, World.ownsRow_nil _ _ _ _, by simp [Value.ownBlock]⟩, rfl⟩, ?_, (Below.refl _ _).alloc (Nat.le_refl _) _⟩
  rintro k (rfl | hk)
  · exact Nat.le_refl _
  · simp [Value.ownBlock] at hk

/-- One byte more, put behind: what the append and the store leave. -/
theorem Wt.one {w wa w4 : World} {p g2 cap2 H : Nat} {v : Value} {l : List UInt8} {y : Nat} (h : Wt w p v l) (hy : y < 256) (ha : Below w.heap.size w wa) (hH : wa.heap.size = H) (ho : w4.ownsRow 0 5 1 (.slice (some ⟨g2, 0, none⟩) (l.length + 1) cap2) (l.length + 1) (l.map by1 ++ [.int .u8 (y : Int)])) (hg : wa.grownBy w4 v.ownBlock) (h2 : v.ownBlock = some g2 ∨ g2 = H) :
    w4.cell? ⟨p, 0, none⟩ = some v ∧ w4.frozen? ⟨p, 0, none⟩ = false ∧ Wt (w4.setCell ⟨p, 0, none⟩ (.slice (some ⟨g2, 0, none⟩) (l.length + 1) cap2)) p (.slice (some ⟨g2, 0, none⟩) (l.length + 1) cap2) (l ++ [UInt8.ofNat y]) ∧ Keep (fpW p v) w (w4.setCell ⟨p, 0, none⟩ (.slice (some ⟨g2, 0, none⟩) (l.length + 1) cap2)) ∧ MovesP w v (.slice (some ⟨g2, 0, none⟩) (l.length + 1) cap2) := by
  have hm : (l ++ [UInt8.ofNat y]).map by1 = l.map by1 ++ [.int .u8 (y : Int)] := by
    rw [List.map_append, List.map_singleton, show by1 (UInt8.ofNat y) = .int .u8 (y : Int) from by
      show Value.int .u8 _ = _
      rw [ofNat_toNat y hy]]
  have hl : (l ++ [UInt8.ofNat y]).length = l.length + 1 := by simp
  obtain ⟨a, b, c, d⟩ := h.put (m := l ++ [UInt8.ofNat y]) ha (by rw [hm, hl]; exact ho) hg (by
    rcases h2 with h2 | h2
    · exact .inl h2.symm
    · right
      rw [hH, h2]
      rfl)
  exact ⟨by simp [World.cell?, a], by simp [World.frozen?, a], b, c, d⟩

theorem pk1 {w : World} {p : Nat} {a : Value} (h : w.heap[p]? = some (.cells #[a] 99)) : w.cell? ⟨p, 0, none⟩ = some a ∧ w.frozen? ⟨p, 0, none⟩ = false := by
  simp [World.cell?, World.frozen?, h]

set_option maxRecDepth 100000 in
set_option maxHeartbeats 2000000 in
theorem number_put (w : World) (p : Nat) (v : Value) (l : List UInt8) (n : Nat) (h : Wt w p v l) (hn : n < 18446744073709551616) (hl : (l ++ sev n).length ≤ 140737488351232) :
    Calls Tryd.prog 27 #[ptr p, u6 n] w fun e w' => (∃ u, e = .returned u) ∧ ∃ v', Wt w' p v' (l ++ sev n) ∧ Keep (fpW p v) w w' ∧ MovesP w v v' := by
  obtain ⟨i0, ji, hz0, hz1, hz2⟩ := info_parts info_byte
  have H := Hid.mk' h
  have HL := Hid.mk' hl
  clear h hl
  go_enter Tryd.func27, Tryd.ntmps27
  go_wp2
  go_loopw [1] (fun uv wr => ∃ (u : Nat) (m : List UInt8) (x : Value), uv = .int .u64 (u : Int) ∧ u < 18446744073709551616 ∧ Hid (l ++ sev n = m ++ sev u) ∧ Hid (Wt wr p x m) ∧ Hid (Keep (fpW p v) w wr) ∧ Hid (MovesP w v x)) (fun uv _ => (intOf uv).toNat)
  case atStart => exact ⟨n, l, v, rfl, hn, rfl, H, Keep.refl _ _, MovesP.refl _ _⟩
  case round =>
    obtain ⟨u, m, x, rfl, hu, hE, hW, hK, hM⟩ := hrel
    obtain ⟨q0, qf⟩ := hW.out.cells
    have hrow := Hid.mk' hW.out.row
    have hlen : m.length + 1 ≤ 140737488351232 := by
      have h1 := HL.out
      rw [hE.out, List.length_append] at h1
      have h2 : 0 < (sev u).length := by
        rw [sev]
        split <;> simp
      omega
    have hmx : Hid (m.length + 1 ≤ maxLen) := by show _ ≤ _; unfold maxLen; omega
    have hby : Hid ((m.length + 1) * 1 ≤ 140737488355328) := by show _ ≤ _; omega
    obtain ⟨a, cap, hx, _⟩ := Nm.own_shape hW.out.row
    by_cases hge : 128 ≤ u
    · have hge' : (128 : Int) ≤ (u : Int) := by omega
      obtain ⟨y, hy⟩ : ∃ y : Nat, u % 128 = y := ⟨_, rfl⟩
      obtain ⟨q, hq⟩ : ∃ q : Nat, u / 128 = q := ⟨_, rfl⟩
      have hyl : y < 128 := by omega
      have hrem : (u : Int).tmod 128 = (y : Int) := by rw [Int.tmod_eq_emod_of_nonneg (by omega)]; omega
      have hqI : (u : Int) / 128 = (q : Int) := by omega
      have hql : q < 18446744073709551616 := by omega
      have hqu : q < u := by omega
      have hS' : Hid (l ++ sev n = (m ++ [UInt8.ofNat (y + 128)]) ++ sev q) := by
        show _ = _
        rw [hE.out, sev_ge u hge, hy, hq, List.append_assoc]
        rfl
      have hone : Hid (∀ x ∈ [Value.int .u8 ((y : Int) + 128)], x.oneCell' = true) := by intro x hx; simp at hx; subst hx; rfl
      have hb : Hid (Below wr.heap.size wr (wr.alloc (.cells #[.int .u8 ((y : Int) + 128)] 5))) := (Below.refl _ _).alloc (Nat.le_refl _) _
      have hput : Hid (∀ (wa w4 : World) (g2 cap2 H : Nat), Below wr.heap.size wr wa → wa.heap.size = H → w4.ownsRow 0 5 1 (.slice (some ⟨g2, 0, none⟩) (m.length + 1) cap2) (m.length + 1) (m.map by1 ++ [.int .u8 ((y : Int) + 128)]) → wa.grownBy w4 x.ownBlock → (x.ownBlock = some g2 ∨ g2 = H) → _) := fun wa w4 g2 cap2 H ha hH ho hg h2 => hW.out.one (y := y + 128) (by omega) ha hH ho hg h2
      have hrow' := Hid.mk' hrow.out
      clear hy hq hge
      subst hx
      go_wp2_with (at_builtin; refine wpList_append_lies _ rfl _ _ 30 rfl 0 5 i0 (.int .u8 0) 1 1 Tryd.underlying30 ji hz0 hz1 hz2 rfl (by decide) _ m.length (m.map by1) rfl (hrow.out.alloc _) ⟨wr.heap.size, 0, none⟩ 1 1 [.int .u8 ((y : Int) + 128)] rfl rfl (cell_one_new _ _ _) hone.out (by decide) hmx.out hby.out (Nat.zero_le _) _ rfl ?_; intro g2 cap2 w4 hown4 hgrow hg2 hlt2; obtain ⟨x0, xf, hW4, hK4, hM4⟩ := hput.out _ _ _ _ _ ((Below.refl _ _).alloc (Nat.le_refl _) _) rfl hown4 hgrow hg2; have HW4 := Hid.mk' hW4; have HK4 := Hid.mk' hK4; have HM4 := Hid.mk' hM4; clear hW4 hK4 hM4 hown4 hgrow)
      go_wp2
      go_roundw
      case rel => exact ⟨q, _, _, by go_num, hql, hS', HW4, hK.out.trans HK4.out (fun i hi h => by
        rcases h with h | h
        · exact .inl h
        · rcases hM.out i h with h | h
          · exact .inr h
          · omega), hM.out.trans HM4.out hK.out.size⟩
      case measure => simp [intOf]; omega
    · have hge' : ¬ (128 : Int) ≤ (u : Int) := by omega
      have hE' : Hid (l ++ sev n = m ++ [UInt8.ofNat u]) := by
        show _ = _
        rw [hE.out, sev_lt u (by omega)]
      have hone : Hid (∀ x ∈ [Value.int .u8 (u : Int)], x.oneCell' = true) := by intro x hx; simp at hx; subst hx; rfl
      have hput : Hid (∀ (wa w4 : World) (g2 cap2 H : Nat), Below wr.heap.size wr wa → wa.heap.size = H → w4.ownsRow 0 5 1 (.slice (some ⟨g2, 0, none⟩) (m.length + 1) cap2) (m.length + 1) (m.map by1 ++ [.int .u8 (u : Int)]) → wa.grownBy w4 x.ownBlock → (x.ownBlock = some g2 ∨ g2 = H) → _) := fun wa w4 g2 cap2 H ha hH ho hg h2 => hW.out.one (y := u) (by omega) ha hH ho hg h2
      clear hge
      subst hx
      go_wp2_with (at_builtin; refine wpList_append_lies _ rfl _ _ 30 rfl 0 5 i0 (.int .u8 0) 1 1 Tryd.underlying30 ji hz0 hz1 hz2 rfl (by decide) _ m.length (m.map by1) rfl (hrow.out.alloc _) ⟨wr.heap.size, 0, none⟩ 1 1 [.int .u8 (u : Int)] rfl rfl (cell_one_new _ _ _) hone.out (by decide) hmx.out hby.out (Nat.zero_le _) _ rfl ?_; intro g2 cap2 w4 hown4 hgrow hg2 hlt2; obtain ⟨x0, xf, hW4, hK4, hM4⟩ := hput.out _ _ _ _ _ ((Below.refl _ _).alloc (Nat.le_refl _) _) rfl hown4 hgrow hg2; have HW4 := Hid.mk' hW4; have HK4 := Hid.mk' hK4; have HM4 := Hid.mk' hM4; clear hW4 hK4 hM4 hown4 hgrow)
      go_wp2
      go_end0
      exact ⟨⟨_, rfl⟩, _, by rw [hE'.out]; exact HW4.out, hK.out.trans HK4.out (fun i hi h => by
        rcases h with h | h
        · exact .inl h
        · rcases hM.out i h with h | h
          · exact .inr h
          · omega), hM.out.trans HM4.out hK.out.size⟩

set_option maxRecDepth 100000 in
theorem text_put (w : World) (p : Nat) (v : Value) (l s : List UInt8) (h : Wt w p v l) (hl : (l ++ txt s).length ≤ 140737488351232) :
    Calls Tryd.prog 101 #[ptr p, .string (tx s)] w fun e w' => (∃ u, e = .returned u) ∧ ∃ v', Wt w' p v' (l ++ txt s) ∧ Keep (fpW p v) w w' ∧ MovesP w v v' := by
  have hlen : (l ++ sev s.length).length + s.length ≤ 140737488351232 := by
    have := hl
    simp only [txt, List.length_append] at this ⊢
    omega
  have C := Hid.mk' (number_put w p v l s.length h (by omega) (by omega))
  obtain ⟨L, hL⟩ : ∃ L, l ++ sev s.length = L := ⟨_, rfl⟩
  have hT : Hid (l ++ txt s = L ++ s) := by
    show _ = _
    rw [← hL, txt, List.append_assoc]
  rw [hL] at C hlen
  have hsz : s.length ≤ 140737488351232 := by omega
  have hz : (tx s).size = s.length := rfl
  obtain ⟨f, hf⟩ : ∃ f, f = tx s := ⟨_, rfl⟩
  rw [← hf] at hz ⊢
  have HF := Hid.mk' hf
  have HLN := Hid.mk' hlen
  clear hf h hl hL hlen
  go_enter Tryd.func101, Tryd.ntmps101
  go_wp2_with fail
  refine C.out.mono ?_
  rintro e w1 ⟨⟨u, rfl⟩, v1, hW, hK, hM⟩
  obtain ⟨q0, qf⟩ := hW.cells
  obtain ⟨a, cap, rfl, _⟩ := Nm.own_shape hW.row
  have HW := Hid.mk' hW
  have HK := Hid.mk' hK
  have HM := Hid.mk' hM
  clear hW hK hM C
  go_wp2_with (at_builtin; refine wpList_append_text rfl _ _ rfl 0 _ _ _ _ s rfl rfl HF.out HW.out.row (by have := HLN.out; omega) (Nat.zero_le _) ?_; intro v' w4 ho4 hg4 hv4; obtain ⟨hb4, hW4, hK4, hM4⟩ := HW.out.put (m := L ++ s) (Below.refl _ _) (by rw [List.length_append, List.map_append]; exact ho4) hg4 hv4; obtain ⟨x0, xf⟩ := pk1 hb4; obtain ⟨a', cap', rfl, _⟩ := Nm.own_shape ho4; have HW4 := Hid.mk' hW4; have HK4 := Hid.mk' hK4; have HM4 := Hid.mk' hM4; clear hb4 hW4 hK4 hM4 ho4 hg4 hv4)
  go_wp2
  go_end0
  exact ⟨⟨_, rfl⟩, _, by rw [hT.out]; exact HW4.out, HK.out.trans HK4.out (fun i hi h => by
    rcases h with h | h
    · exact .inl h
    · rcases HM.out i h with h | h
      · exact .inr h
      · omega), HM.out.trans HM4.out HK.out.size⟩

theorem clone_row (w : World) (v : Value) (l : List UInt8) (h : w.ownsRow 0 5 1 v l.length (l.map by1)) (hl : l.length ≤ 140737488351232) :
    Calls Tryd.prog 45 #[v] w fun e w' => ∃ x, e = .returned x ∧ w'.ownsRow w.heap.size 5 1 x l.length (l.map by1) ∧ Below w.heap.size w w' := by
  rcases h.2 with ⟨rfl, h0⟩ | ⟨g, cap, cur, rfl, h1, h2, h3, h4, h5, h6⟩
  · refine (Tryd.bytes_Clone_nil 0 0 w).mono ?_
    rintro e w' ⟨rfl, rfl⟩
    obtain rfl := List.eq_nil_of_length_eq_zero h0
    exact ⟨_, rfl, World.ownsRow_nil _ _ _ _, Below.refl _ _⟩
  · refine (Tryd.bytes_Clone_at ⟨g, 0, none⟩ l.length cap (l.map fun x => (x.toNat : Int)) w (by simp) (by omega) (fun i hi => ?_)).mono ?_
    · have hc := h.cellAt i (by omega)
      have e : (l.map fun x => (x.toNat : Int)).getD i 0 = (l[i].toNat : Int) := by simp [List.getD, hi]
      rw [e]
      refine Eq.trans ?_ (hc.trans ?_)
      · congr 1
        by_cases h0 : i = 0
        · subst h0
          simp [Addr.add]
        · simp [Addr.add, h0]
      · rw [List.getElem?_map, List.getElem?_eq_getElem hi]
        rfl
    · rintro e w' ⟨x, rfl, ho, _, hb⟩
      rw [List.map_map] at ho
      exact ⟨x, rfl, ho, hb⟩

theorem bytes_put (w : World) (p : Nat) (v : Value) (l : List UInt8) (h : Wt w p v l) (hl : l.length ≤ 140737488351232) :
    Calls Tryd.prog 28 #[ptr p] w fun e w' => ∃ x, e = .returned x ∧ w'.ownsRow w.heap.size 5 1 x l.length (l.map by1) ∧ Below w.heap.size w w' := by
  obtain ⟨q0, qf⟩ := h.cells
  have C := Hid.mk' (clone_row w v l h.row hl)
  obtain ⟨a, cap, rfl, _⟩ := Nm.own_shape h.row
  clear h
  go_enter Tryd.func28, Tryd.ntmps28
  go_wp2_with fail
  refine C.out.mono ?_
  rintro e w1 ⟨x, rfl, ho, hb⟩
  have HO := Hid.mk' ho
  have HB := Hid.mk' hb
  obtain ⟨a', cap', rfl, _⟩ := Nm.own_shape ho
  clear ho hb C q0 qf
  go_wp2
  go_ret
  exact ⟨_, rfl, HO.out, HB.out⟩
end Pp
end Pk
end Go.Proofs.YtnllplholfhbdaaDoor
