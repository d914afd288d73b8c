/- PutP10, TakeP10, FaceP10, Pack11, in one text. -/
import Derived.Test.YtnllplholfhbdaaDoorPackP
import Derived.Test.YtnllplholfhbdaaDoorShelf
import Derived.Deep.AppendLies
import Derived.Laws.EntriesVeiled
import Derived.Deep.RegionHeld3
import Derived.Defers
import Derived.Recover
/- The program's writer: how it lies in memory, and what New, Number, Text, Bytes answer. -/
namespace Go.Proofs.YtnllplholfhbdaaDoor
set_option linter.ambiguousOpen false
open Go.RowKit
namespace Pk
namespace Pp
open Sm Ft
set_option linter.unusedSimpArgs false
set_option linter.unusedVariables false

/-- A writer of the program. -/
structure Wt (w : World) (p : Nat) (v : Value) (l : List UInt8) : Prop where
  blk : w.heap[p]? = some (.cells #[v] 99)
  row : w.ownsRow 0 5 1 v l.length (l.map by1)
  ne : v.ownBlock ≠ some p

def fpW (p : Nat) (v : Value) (k : Nat) : Prop := k = p ∨ v.ownBlock = some k

def RW (w : World) (p : Nat) (F : Nat → Prop) (l : List UInt8) : Prop := ∃ v, Wt w p v l ∧ F = fpW p v

theorem Wt.keep {G : Nat → Prop} {w w' : World} {p : Nat} {v : Value} {l : List UInt8} (h : Wt w p v l) (hk : Keep G w w') (hn : ∀ j, fpW p v j → ¬ G j) : Wt w' p v l :=
  ⟨hk.at h.blk (hn p (.inl rfl)), hk.own h.row (fun g hg => hn g (.inr hg)), h.ne⟩

theorem Wt.below {w w' : World} {p : Nat} {v : Value} {l : List UInt8} (h : Wt w p v l) (hb : Below w.heap.size w w') : Wt w' p v l :=
  h.keep (Keep.of_below (F := fun _ => False) hb) (fun _ _ h => h)

theorem Wt.lt {w : World} {p : Nat} {v : Value} {l : List UInt8} (h : Wt w p v l) (j : Nat) (hj : fpW p v j) : j < w.heap.size := by
  rcases hj with rfl | hj
  · exact (Array.getElem?_eq_some_iff.1 h.blk).1
  · exact (h.row.lt j hj).2

theorem Wt.cells {w : World} {p : Nat} {v : Value} {l : List UInt8} (h : Wt w p v l) : w.cell? ⟨p, 0, none⟩ = some v ∧ w.frozen? ⟨p, 0, none⟩ = false := by
  simp [World.cell?, World.frozen?, h.blk]

/-- Where the row lies behind a call: where it lay, or in what is new. -/
def MovesP (w : World) (v v' : Value) : Prop := ∀ k, v'.ownBlock = some k → v.ownBlock = some k ∨ w.heap.size ≤ k

theorem MovesP.refl (w : World) (v : Value) : MovesP w v v := fun _ h => .inl h

theorem MovesP.trans {w w1 : World} {v v1 v2 : Value} (h : MovesP w v v1) (k : MovesP w1 v1 v2) (hs : w.heap.size ≤ w1.heap.size) : MovesP w v v2 := fun i hi => by
  rcases k i hi with h1 | h1
  · exact h i h1
  · exact .inr (Nat.le_trans hs h1)

theorem goes_moves {w : World} {p : Nat} {v v' : Value} (h : MovesP w v v') : Goes w (fpW p v) (fpW p v') := fun k hk => by
  rcases hk with rfl | hk
  · exact .inl (.inl rfl)
  · rcases h k hk with h | h
    · exact .inl (.inr h)
    · exact .inr h

/-- A row that has grown is put where the old one lay. -/
theorem Wt.put {w wa w4 : World} {p : Nat} {v v' : Value} {l m : List UInt8} (h : Wt w p v l) (ha : Below w.heap.size w wa) (ho : w4.ownsRow 0 5 1 v' m.length (m.map by1)) (hg : wa.grownBy w4 v.ownBlock) (hv : v'.ownBlock = v.ownBlock ∨ v'.ownBlock = some wa.heap.size) :
    w4.heap[p]? = some (.cells #[v] 99) ∧ Wt (w4.setCell ⟨p, 0, none⟩ v') p v' m ∧ Keep (fpW p v) w (w4.setCell ⟨p, 0, none⟩ v') ∧ MovesP w v v' := by
  have lp := h.lt p (.inl rfl)
  have hK4 : Keep (fun k => v.ownBlock = some k) w w4 := (Keep.of_below ha).grown hg (fun k hk => .inl hk)
  have hb := hK4.at h.blk h.ne
  have hne : v'.ownBlock ≠ some p := by
    rcases hv with hv | hv
    · rw [hv]; exact h.ne
    · rw [hv]
      intro e
      have := ha.size
      simp at e
      omega
  have hKp : Keep (fun k => k = p) w4 (w4.setCell ⟨p, 0, none⟩ v') := (Keep.refl (fun k => k = p) w4).setCell (p := ⟨p, 0, none⟩) (.inl rfl) v'
  refine ⟨hb, ⟨heap_setCell_same _ p 0 _ _ _ hb, hKp.own ho (fun g hg e => hne (by rw [hg, e])), hne⟩, ?_, fun k hk => ?_⟩
  · exact (hK4.weaken (G := fpW p v) (fun k _ e => .inr e)).setCell (p := ⟨p, 0, none⟩) (.inl (.inl rfl)) _
  · rcases hv with hv | hv
    · rw [hv] at hk; exact .inl hk
    · rw [hv] at hk
      simp at hk
      have := ha.size
      exact .inr (by omega)

theorem new_any (w : World) : Calls Tryd.prog 26 #[] w fun e w' => ∃ p F, e = .returned (ptr p) ∧ RW w' p F [] ∧ (∀ k, F k → w.heap.size ≤ k) ∧ Below w.heap.size w w' := by
  go_enter Tryd.func26, Tryd.ntmps26
  go_wp2
  go_ret
  refine ⟨w.heap.size, _, rfl, ⟨.slice none 0 0, ⟨heap_alloc_new _ _, World.ownsRow_nil _ _ _ _, by simp [Value.ownBlock]⟩, rfl⟩, ?_, (Below.refl _ _).alloc (Nat.le_refl _) _⟩
  rintro k (rfl | hk)
  · exact Nat.le_refl _
  · simp [Value.ownBlock] at hk

/-- One byte more, put behind: what the append and the store leave. -/
theorem Wt.one {w wa w4 : World} {p g2 cap2 H : Nat} {v : Value} {l : List UInt8} {y : Nat} (h : Wt w p v l) (hy : y < 256) (ha : Below w.heap.size w wa) (hH : wa.heap.size = H) (ho : w4.ownsRow 0 5 1 (.slice (some ⟨g2, 0, none⟩) (l.length + 1) cap2) (l.length + 1) (l.map by1 ++ [.int .u8 (y : Int)])) (hg : wa.grownBy w4 v.ownBlock) (h2 : v.ownBlock = some g2 ∨ g2 = H) :
    w4.cell? ⟨p, 0, none⟩ = some v ∧ w4.frozen? ⟨p, 0, none⟩ = false ∧ Wt (w4.setCell ⟨p, 0, none⟩ (.slice (some ⟨g2, 0, none⟩) (l.length + 1) cap2)) p (.slice (some ⟨g2, 0, none⟩) (l.length + 1) cap2) (l ++ [UInt8.ofNat y]) ∧ Keep (fpW p v) w (w4.setCell ⟨p, 0, none⟩ (.slice (some ⟨g2, 0, none⟩) (l.length + 1) cap2)) ∧ MovesP w v (.slice (some ⟨g2, 0, none⟩) (l.length + 1) cap2) := by
  have hm : (l ++ [UInt8.ofNat y]).map by1 = l.map by1 ++ [.int .u8 (y : Int)] := by
    rw [List.map_append, List.map_singleton, show by1 (UInt8.ofNat y) = .int .u8 (y : Int) from by
      show Value.int .u8 _ = _
      rw [ofNat_toNat y hy]]
  have hl : (l ++ [UInt8.ofNat y]).length = l.length + 1 := by simp
  obtain ⟨a, b, c, d⟩ := h.put (m := l ++ [UInt8.ofNat y]) ha (by rw [hm, hl]; exact ho) hg (by
    rcases h2 with h2 | h2
    · exact .inl h2.symm
    · right
      rw [hH, h2]
      rfl)
  exact ⟨by simp [World.cell?, a], by simp [World.frozen?, a], b, c, d⟩

theorem pk1 {w : World} {p : Nat} {a : Value} (h : w.heap[p]? = some (.cells #[a] 99)) : w.cell? ⟨p, 0, none⟩ = some a ∧ w.frozen? ⟨p, 0, none⟩ = false := by
  simp [World.cell?, World.frozen?, h]

set_option maxRecDepth 100000 in
set_option maxHeartbeats 2000000 in
theorem number_put (w : World) (p : Nat) (v : Value) (l : List UInt8) (n : Nat) (h : Wt w p v l) (hn : n < 18446744073709551616) (hl : (l ++ sev n).length ≤ 140737488351232) :
    Calls Tryd.prog 27 #[ptr p, u6 n] w fun e w' => (∃ u, e = .returned u) ∧ ∃ v', Wt w' p v' (l ++ sev n) ∧ Keep (fpW p v) w w' ∧ MovesP w v v' := by
  obtain ⟨i0, ji, hz0, hz1, hz2⟩ := info_parts info_byte
  have H := Hid.mk' h
  have HL := Hid.mk' hl
  clear h hl
  go_enter Tryd.func27, Tryd.ntmps27
  go_wp2
  go_loopw [1] (fun uv wr => ∃ (u : Nat) (m : List UInt8) (x : Value), uv = .int .u64 (u : Int) ∧ u < 18446744073709551616 ∧ Hid (l ++ sev n = m ++ sev u) ∧ Hid (Wt wr p x m) ∧ Hid (Keep (fpW p v) w wr) ∧ Hid (MovesP w v x)) (fun uv _ => (intOf uv).toNat)
  case atStart => exact ⟨n, l, v, rfl, hn, rfl, H, Keep.refl _ _, MovesP.refl _ _⟩
  case round =>
    obtain ⟨u, m, x, rfl, hu, hE, hW, hK, hM⟩ := hrel
    obtain ⟨q0, qf⟩ := hW.out.cells
    have hrow := Hid.mk' hW.out.row
    have hlen : m.length + 1 ≤ 140737488351232 := by
      have h1 := HL.out
      rw [hE.out, List.length_append] at h1
      have h2 : 0 < (sev u).length := by
        rw [sev]
        split <;> simp
      omega
    have hmx : Hid (m.length + 1 ≤ maxLen) := by show _ ≤ _; unfold maxLen; omega
    have hby : Hid ((m.length + 1) * 1 ≤ 140737488355328) := by show _ ≤ _; omega
    obtain ⟨a, cap, hx, _⟩ := Nm.own_shape hW.out.row
    by_cases hge : 128 ≤ u
    · have hge' : (128 : Int) ≤ (u : Int) := by omega
      obtain ⟨y, hy⟩ : ∃ y : Nat, u % 128 = y := ⟨_, rfl⟩
      obtain ⟨q, hq⟩ : ∃ q : Nat, u / 128 = q := ⟨_, rfl⟩
      have hyl : y < 128 := by omega
      have hrem : (u : Int).tmod 128 = (y : Int) := by rw [Int.tmod_eq_emod_of_nonneg (by omega)]; omega
      have hqI : (u : Int) / 128 = (q : Int) := by omega
      have hql : q < 18446744073709551616 := by omega
      have hqu : q < u := by omega
      have hS' : Hid (l ++ sev n = (m ++ [UInt8.ofNat (y + 128)]) ++ sev q) := by
        show _ = _
        rw [hE.out, sev_ge u hge, hy, hq, List.append_assoc]
        rfl
      have hone : Hid (∀ x ∈ [Value.int .u8 ((y : Int) + 128)], x.oneCell' = true) := by intro x hx; simp at hx; subst hx; rfl
      have hb : Hid (Below wr.heap.size wr (wr.alloc (.cells #[.int .u8 ((y : Int) + 128)] 5))) := (Below.refl _ _).alloc (Nat.le_refl _) _
      have hput : Hid (∀ (wa w4 : World) (g2 cap2 H : Nat), Below wr.heap.size wr wa → wa.heap.size = H → w4.ownsRow 0 5 1 (.slice (some ⟨g2, 0, none⟩) (m.length + 1) cap2) (m.length + 1) (m.map by1 ++ [.int .u8 ((y : Int) + 128)]) → wa.grownBy w4 x.ownBlock → (x.ownBlock = some g2 ∨ g2 = H) → _) := fun wa w4 g2 cap2 H ha hH ho hg h2 => hW.out.one (y := y + 128) (by omega) ha hH ho hg h2
      have hrow' := Hid.mk' hrow.out
      clear hy hq hge
      subst hx
      go_wp2_with (at_builtin; refine wpList_append_lies _ rfl _ _ 30 rfl 0 5 i0 (.int .u8 0) 1 1 Tryd.underlying30 ji hz0 hz1 hz2 rfl (by decide) _ m.length (m.map by1) rfl (hrow.out.alloc _) ⟨wr.heap.size, 0, none⟩ 1 1 [.int .u8 ((y : Int) + 128)] rfl rfl (cell_one_new _ _ _) hone.out (by decide) hmx.out hby.out (Nat.zero_le _) _ rfl ?_; intro g2 cap2 w4 hown4 hgrow hg2 hlt2; obtain ⟨x0, xf, hW4, hK4, hM4⟩ := hput.out _ _ _ _ _ ((Below.refl _ _).alloc (Nat.le_refl _) _) rfl hown4 hgrow hg2; have HW4 := Hid.mk' hW4; have HK4 := Hid.mk' hK4; have HM4 := Hid.mk' hM4; clear hW4 hK4 hM4 hown4 hgrow)
      go_wp2
      go_roundw
      case rel => exact ⟨q, _, _, by go_num, hql, hS', HW4, hK.out.trans HK4.out (fun i hi h => by
        rcases h with h | h
        · exact .inl h
        · rcases hM.out i h with h | h
          · exact .inr h
          · omega), hM.out.trans HM4.out hK.out.size⟩
      case measure => simp [intOf]; omega
    · have hge' : ¬ (128 : Int) ≤ (u : Int) := by omega
      have hE' : Hid (l ++ sev n = m ++ [UInt8.ofNat u]) := by
        show _ = _
        rw [hE.out, sev_lt u (by omega)]
      have hone : Hid (∀ x ∈ [Value.int .u8 (u : Int)], x.oneCell' = true) := by intro x hx; simp at hx; subst hx; rfl
      have hput : Hid (∀ (wa w4 : World) (g2 cap2 H : Nat), Below wr.heap.size wr wa → wa.heap.size = H → w4.ownsRow 0 5 1 (.slice (some ⟨g2, 0, none⟩) (m.length + 1) cap2) (m.length + 1) (m.map by1 ++ [.int .u8 (u : Int)]) → wa.grownBy w4 x.ownBlock → (x.ownBlock = some g2 ∨ g2 = H) → _) := fun wa w4 g2 cap2 H ha hH ho hg h2 => hW.out.one (y := u) (by omega) ha hH ho hg h2
      clear hge
      subst hx
      go_wp2_with (at_builtin; refine wpList_append_lies _ rfl _ _ 30 rfl 0 5 i0 (.int .u8 0) 1 1 Tryd.underlying30 ji hz0 hz1 hz2 rfl (by decide) _ m.length (m.map by1) rfl (hrow.out.alloc _) ⟨wr.heap.size, 0, none⟩ 1 1 [.int .u8 (u : Int)] rfl rfl (cell_one_new _ _ _) hone.out (by decide) hmx.out hby.out (Nat.zero_le _) _ rfl ?_; intro g2 cap2 w4 hown4 hgrow hg2 hlt2; obtain ⟨x0, xf, hW4, hK4, hM4⟩ := hput.out _ _ _ _ _ ((Below.refl _ _).alloc (Nat.le_refl _) _) rfl hown4 hgrow hg2; have HW4 := Hid.mk' hW4; have HK4 := Hid.mk' hK4; have HM4 := Hid.mk' hM4; clear hW4 hK4 hM4 hown4 hgrow)
      go_wp2
      go_end0
      exact ⟨⟨_, rfl⟩, _, by rw [hE'.out]; exact HW4.out, hK.out.trans HK4.out (fun i hi h => by
        rcases h with h | h
        · exact .inl h
        · rcases hM.out i h with h | h
          · exact .inr h
          · omega), hM.out.trans HM4.out hK.out.size⟩

set_option maxRecDepth 100000 in
theorem text_put (w : World) (p : Nat) (v : Value) (l s : List UInt8) (h : Wt w p v l) (hl : (l ++ txt s).length ≤ 140737488351232) :
    Calls Tryd.prog 101 #[ptr p, .string (tx s)] w fun e w' => (∃ u, e = .returned u) ∧ ∃ v', Wt w' p v' (l ++ txt s) ∧ Keep (fpW p v) w w' ∧ MovesP w v v' := by
  have hlen : (l ++ sev s.length).length + s.length ≤ 140737488351232 := by
    have := hl
    simp only [txt, List.length_append] at this ⊢
    omega
  have C := Hid.mk' (number_put w p v l s.length h (by omega) (by omega))
  obtain ⟨L, hL⟩ : ∃ L, l ++ sev s.length = L := ⟨_, rfl⟩
  have hT : Hid (l ++ txt s = L ++ s) := by
    show _ = _
    rw [← hL, txt, List.append_assoc]
  rw [hL] at C hlen
  have hsz : s.length ≤ 140737488351232 := by omega
  have hz : (tx s).size = s.length := rfl
  obtain ⟨f, hf⟩ : ∃ f, f = tx s := ⟨_, rfl⟩
  rw [← hf] at hz ⊢
  have HF := Hid.mk' hf
  have HLN := Hid.mk' hlen
  clear hf h hl hL hlen
  go_enter Tryd.func101, Tryd.ntmps101
  go_wp2_with fail
  refine C.out.mono ?_
  rintro e w1 ⟨⟨u, rfl⟩, v1, hW, hK, hM⟩
  obtain ⟨q0, qf⟩ := hW.cells
  obtain ⟨a, cap, rfl, _⟩ := Nm.own_shape hW.row
  have HW := Hid.mk' hW
  have HK := Hid.mk' hK
  have HM := Hid.mk' hM
  clear hW hK hM C
  go_wp2_with (at_builtin; refine wpList_append_text rfl _ _ rfl 0 _ _ _ _ s rfl rfl HF.out HW.out.row (by have := HLN.out; omega) (Nat.zero_le _) ?_; intro v' w4 ho4 hg4 hv4; obtain ⟨hb4, hW4, hK4, hM4⟩ := HW.out.put (m := L ++ s) (Below.refl _ _) (by rw [List.length_append, List.map_append]; exact ho4) hg4 hv4; obtain ⟨x0, xf⟩ := pk1 hb4; obtain ⟨a', cap', rfl, _⟩ := Nm.own_shape ho4; have HW4 := Hid.mk' hW4; have HK4 := Hid.mk' hK4; have HM4 := Hid.mk' hM4; clear hb4 hW4 hK4 hM4 ho4 hg4 hv4)
  go_wp2
  go_end0
  exact ⟨⟨_, rfl⟩, _, by rw [hT.out]; exact HW4.out, HK.out.trans HK4.out (fun i hi h => by
    rcases h with h | h
    · exact .inl h
    · rcases HM.out i h with h | h
      · exact .inr h
      · omega), HM.out.trans HM4.out HK.out.size⟩

theorem clone_row (w : World) (v : Value) (l : List UInt8) (h : w.ownsRow 0 5 1 v l.length (l.map by1)) (hl : l.length ≤ 140737488351232) :
    Calls Tryd.prog 45 #[v] w fun e w' => ∃ x, e = .returned x ∧ w'.ownsRow w.heap.size 5 1 x l.length (l.map by1) ∧ Below w.heap.size w w' := by
  rcases h.2 with ⟨rfl, h0⟩ | ⟨g, cap, cur, rfl, h1, h2, h3, h4, h5, h6⟩
  · refine (Tryd.bytes_Clone_nil 0 0 w).mono ?_
    rintro e w' ⟨rfl, rfl⟩
    obtain rfl := List.eq_nil_of_length_eq_zero h0
    exact ⟨_, rfl, World.ownsRow_nil _ _ _ _, Below.refl _ _⟩
  · refine (Tryd.bytes_Clone_at ⟨g, 0, none⟩ l.length cap (l.map fun x => (x.toNat : Int)) w (by simp) (by omega) (fun i hi => ?_)).mono ?_
    · have hc := h.cellAt i (by omega)
      have e : (l.map fun x => (x.toNat : Int)).getD i 0 = (l[i].toNat : Int) := by simp [List.getD, hi]
      rw [e]
      refine Eq.trans ?_ (hc.trans ?_)
      · congr 1
        by_cases h0 : i = 0
        · subst h0
          simp [Addr.add]
        · simp [Addr.add, h0]
      · rw [List.getElem?_map, List.getElem?_eq_getElem hi]
        rfl
    · rintro e w' ⟨x, rfl, ho, _, hb⟩
      rw [List.map_map] at ho
      exact ⟨x, rfl, ho, hb⟩

theorem bytes_put (w : World) (p : Nat) (v : Value) (l : List UInt8) (h : Wt w p v l) (hl : l.length ≤ 140737488351232) :
    Calls Tryd.prog 28 #[ptr p] w fun e w' => ∃ x, e = .returned x ∧ w'.ownsRow w.heap.size 5 1 x l.length (l.map by1) ∧ Below w.heap.size w w' := by
  obtain ⟨q0, qf⟩ := h.cells
  have C := Hid.mk' (clone_row w v l h.row hl)
  obtain ⟨a, cap, rfl, _⟩ := Nm.own_shape h.row
  clear h
  go_enter Tryd.func28, Tryd.ntmps28
  go_wp2_with fail
  refine C.out.mono ?_
  rintro e w1 ⟨x, rfl, ho, hb⟩
  have HO := Hid.mk' ho
  have HB := Hid.mk' hb
  obtain ⟨a', cap', rfl, _⟩ := Nm.own_shape ho
  clear ho hb C q0 qf
  go_wp2
  go_ret
  exact ⟨_, rfl, HO.out, HB.out⟩
end Pp
end Pk
end Go.Proofs.YtnllplholfhbdaaDoor
/- The program's reader: how it lies in memory, what goes ahead of it, and how that gives up. -/
namespace Go.Proofs.YtnllplholfhbdaaDoor
set_option linter.ambiguousOpen false
open Go.RowKit
namespace Pk
namespace Pp
open Sm Ft
set_option linter.unusedSimpArgs false
set_option linter.unusedVariables false

/-- A reader of the program: a text, what is left. -/
structure Rd (w : World) (p : Nat) (l : List UInt8) : Prop where
  blk : w.heap[p]? = some (.cells #[.string (tx l)] 118)
  sz : l.length ≤ 140737488351232

def RR (w : World) (p : Nat) (F : Nat → Prop) (l : List UInt8) : Prop := Rd w p l ∧ F = fun k => k = p

theorem Rd.keep {G : Nat → Prop} {w w' : World} {p : Nat} {l : List UInt8} (h : Rd w p l) (hk : Keep G w w') (hn : ¬ G p) : Rd w' p l := ⟨hk.at h.blk hn, h.sz⟩

theorem Rd.below {w w' : World} {p : Nat} {l : List UInt8} (h : Rd w p l) (hb : Below w.heap.size w w') : Rd w' p l := h.keep (Keep.of_below (F := fun _ => False) hb) (fun h => h)

theorem Rd.lt {w : World} {p : Nat} {l : List UInt8} (h : Rd w p l) : p < w.heap.size := (Array.getElem?_eq_some_iff.1 h.blk).1

theorem Rd.cells {w : World} {p : Nat} {l : List UInt8} (h : Rd w p l) : w.cell? ⟨p, 0, none⟩ = some (.string (tx l)) ∧ w.frozen? ⟨p, 0, none⟩ = false := by
  simp [World.cell?, World.frozen?, h.blk]

theorem Rd.set {w : World} {p : Nat} {l m : List UInt8} (h : Rd w p l) (hm : m.length ≤ l.length) : Rd (w.setCell ⟨p, 0, none⟩ (.string (tx m))) p m ∧ Keep (fun k => k = p) w (w.setCell ⟨p, 0, none⟩ (.string (tx m))) :=
  ⟨⟨heap_setCell_same _ p 0 _ _ _ h.blk, Nat.le_trans hm h.sz⟩, (Keep.refl (fun i => i = p) w).setCell (p := ⟨p, 0, none⟩) (.inl rfl) _⟩

/-- What goes ahead of a reader: what is left, and why it gave up. -/
structure Tk (w : World) (q : Nat) (l : List UInt8) (y : Int) : Prop where
  blk : w.heap[q]? = some (.cells #[.string (tx l), .int .i64 y] 145)
  sz : l.length ≤ 140737488351232

theorem Tk.keep {G : Nat → Prop} {w w' : World} {p : Nat} {l : List UInt8} {y : Int} (h : Tk w p l y) (hk : Keep G w w') (hn : ¬ G p) : Tk w' p l y := ⟨hk.at h.blk hn, h.sz⟩

theorem Tk.below {w w' : World} {p : Nat} {l : List UInt8} {y : Int} (h : Tk w p l y) (hb : Below w.heap.size w w') : Tk w' p l y := h.keep (Keep.of_below (F := fun _ => False) hb) (fun h => h)

theorem Tk.lt {w : World} {p : Nat} {l : List UInt8} {y : Int} (h : Tk w p l y) : p < w.heap.size := (Array.getElem?_eq_some_iff.1 h.blk).1

theorem Tk.cells {w : World} {p : Nat} {l : List UInt8} {y : Int} (h : Tk w p l y) : w.cell? ⟨p, 0, none⟩ = some (.string (tx l)) ∧ w.cell? ⟨p, 1, none⟩ = some (.int .i64 y) ∧ w.frozen? ⟨p, 0, none⟩ = false ∧ w.frozen? ⟨p, 1, none⟩ = false := by
  simp [World.cell?, World.frozen?, h.blk]

theorem Tk.left {w : World} {p : Nat} {l m : List UInt8} {y : Int} (h : Tk w p l y) (hm : m.length ≤ l.length) : Tk (w.setCell ⟨p, 0, none⟩ (.string (tx m))) p m y ∧ Keep (fun k => k = p) w (w.setCell ⟨p, 0, none⟩ (.string (tx m))) :=
  ⟨⟨heap_setCell_same _ p 0 _ _ _ h.blk, Nat.le_trans hm h.sz⟩, (Keep.refl (fun i => i = p) w).setCell (p := ⟨p, 0, none⟩) (.inl rfl) _⟩

theorem Tk.why {w : World} {p : Nat} {l : List UInt8} {y : Int} (h : Tk w p l y) (z : Int) : Tk (w.setCell ⟨p, 1, none⟩ (.int .i64 z)) p l z ∧ Keep (fun k => k = p) w (w.setCell ⟨p, 1, none⟩ (.int .i64 z)) :=
  ⟨⟨heap_setCell_same _ p 1 _ _ _ h.blk, h.sz⟩, (Keep.refl (fun i => i = p) w).setCell (p := ⟨p, 1, none⟩) (.inl rfl) _⟩

/-- A panic with an error's number. -/
@[reducible] def pan (n : Int) : Ending := .panicked [{ v := .iface 60 (.int .i64 n), recovered := false }]

theorem keep_dn {F : Nat → Prop} {w w' : World} (h : Keep F w w') (n : Nat) : Keep F w (w'.drewN n) := ⟨h.os, h.tape, h.output, h.size, h.block⟩

theorem keep_below {F : Nat → Prop} {w a b : World} (h : Keep F w a) (k : Below a.heap.size a b) : Keep F w b := h.trans (Keep.of_below (F := fun _ => False) k) (fun _ _ hf => hf.elim)

theorem one_cell {w : World} {g : Nat} {v : Value} {t : TypeId} (h : w.heap[g]? = some (.cells #[v] t)) : w.cell? ⟨g, 0, none⟩ = some v ∧ w.frozen? ⟨g, 0, none⟩ = false := by simp [World.cell?, World.frozen?, h]

theorem cut_toU (l : List UInt8) (k : Nat) (h : k ≤ l.length) (w : World) : (Instr.slice 9 (.string (tx l)) none (some (.int .u64 (k : Int))) none).run Tryd.prog w = .ok (.string (tx (l.take k))) w := by
  have hu := Tryd.underlying9
  have hs : (tx l).size = l.length := rfl
  have h1 : (0 : Int) ≤ (k : Int) ∧ (k : Int) ≤ (l.length : Int) := by omega
  simp [Instr.slice, Instr.sliceBounds, Instr.sliceBound, asIntOf, run_underlying hu, hs]
  rw [if_pos h, tx_take]

theorem cut_fromU (l : List UInt8) (k : Nat) (h : k ≤ l.length) (w : World) : (Instr.slice 9 (.string (tx l)) (some (.int .u64 (k : Int))) none none).run Tryd.prog w = .ok (.string (tx (l.drop k))) w := by
  have hu := Tryd.underlying9
  have hs : (tx l).size = l.length := rfl
  have h1 : (0 : Int) ≤ (k : Int) ∧ (k : Int) ≤ (l.length : Int) := by omega
  simp [Instr.slice, Instr.sliceBounds, Instr.sliceBound, asIntOf, run_underlying hu, hs]
  rw [if_pos h, tx_drop]

theorem giveUp_any (w : World) (q : Nat) (l : List UInt8) (y z : Int) (h : Tk w q l y) :
    Calls Tryd.prog 70 #[ptr q, .int .i64 z] w fun e w' => e = pan z ∧ Tk w' q l z ∧ Keep (fun k => k = q) w w' := by
  obtain ⟨q0, q1, f0, f1⟩ := h.cells
  obtain ⟨hT, hK⟩ := h.why z
  have HT := Hid.mk' hT
  have HK := Hid.mk' hK
  clear hT hK h
  go_enter Tryd.func70, Tryd.ntmps70
  go_wp2
  exact ⟨rfl, rfl, HT.out, HK.out⟩

theorem next_no (w : World) (q : Nat) (l : List UInt8) (y : Int) (n : Nat) (h : Tk w q l y) (hn : l.length < n) (hn64 : n < 18446744073709551616) :
    Calls Tryd.prog 69 #[ptr q, u6 n] w fun e w' => e = pan 2 ∧ Tk w' q l 2 ∧ Keep (fun k => k = q) w w' := by
  obtain ⟨q0, q1, f0, f1⟩ := h.cells
  have C := Hid.mk' (giveUp_any w q l y 2 h)
  have hs : (tx l).size = l.length := rfl
  have hsz := h.sz
  have hlt : (l.length : Int) < (n : Int) := by omega
  clear h
  obtain ⟨f, hf⟩ : ∃ f, tx l = f := ⟨_, rfl⟩
  rw [hf] at q0 hs
  clear hf
  go_enter Tryd.func69, Tryd.ntmps69
  go_wp2_with fail
  refine C.out.mono ?_
  rintro e w3 ⟨rfl, hT, hK⟩
  have HT := Hid.mk' hT
  have HK := Hid.mk' hK
  clear hT hK C q0 q1 f0 f1
  go_wp2
  exact ⟨rfl, rfl, HT.out, HK.out⟩

theorem next_yes (w : World) (q : Nat) (l : List UInt8) (y : Int) (n : Nat) (h : Tk w q l y) (hn : n ≤ l.length) :
    Calls Tryd.prog 69 #[ptr q, u6 n] w fun e w' => e = .returned (.string (tx (l.take n))) ∧ Tk w' q (l.drop n) y ∧ Keep (fun k => k = q) w w' := by
  obtain ⟨q0, q1, f0, f1⟩ := h.cells
  obtain ⟨hT, hK⟩ := h.left (m := l.drop n) (by simp)
  have HT := Hid.mk' hT
  have HK := Hid.mk' hK
  have s1 := fun wx => cut_toU l n hn wx
  have s2 := fun wx => cut_fromU l n hn wx
  have hs : (tx l).size = l.length := rfl
  have hsz := h.sz
  have hlt : ¬ (l.length : Int) < (n : Int) := by omega
  clear hT hK h
  obtain ⟨f, hf⟩ : ∃ f, tx l = f := ⟨_, rfl⟩
  obtain ⟨f1', hf1⟩ : ∃ f, tx (l.take n) = f := ⟨_, rfl⟩
  obtain ⟨f2', hf2⟩ : ∃ f, tx (l.drop n) = f := ⟨_, rfl⟩
  rw [hf] at q0 hs
  rw [hf2] at HK HT
  rw [hf1]
  simp only [hf, hf1, hf2] at s1 s2
  clear hf hf1
  go_enter Tryd.func69, Tryd.ntmps69
  go_wp2
  go_ret
  exact ⟨rfl, HT.out, HK.out⟩

theorem index_one (x : UInt8) (w : World) : (Instr.index 9 (.string (tx [x])) (.int .i64 0)).run Tryd.prog w = .ok (.int .u8 (x.toNat : Int)) w := by
  have h : (tx [x])[0]? = some x := rfl
  simp [Instr.index, run_underlying Tryd.underlying9, asIntOf, h]

/-- What a number ahead leaves: the number and the bytes behind it, or a panic with its error's number, which is also why it gave up. -/
def Out (w w' : World) (q : Nat) (l : List UInt8) (y : Int) (e : Ending) : Prop :=
  Keep (fun i => i = q) w w' ∧ (((num l).2.2 = 0 ∧ e = .returned (.int .u64 ((num l).1 : Int)) ∧ Tk w' q (l.drop (num l).2.1) y) ∨ ((num l).2.2 ≠ 0 ∧ e = pan ((num l).2.2 : Int) ∧ ∃ m, Tk w' q m ((num l).2.2 : Int)))

set_option maxRecDepth 100000 in
set_option maxHeartbeats 2000000 in
theorem number_take (w : World) (p : Nat) (all : List UInt8) (y : Int) (h : Tk w p all y) :
    Calls Tryd.prog 66 #[ptr p] w fun e w' => Out w w' p all y e := by
  have cY : Hid (∀ wx j, Tk wx p (all.drop j) y → (hj : j < all.length) → Calls Tryd.prog 69 #[ptr p, .int .u64 1] wx fun e w' => e = .returned (.string (tx [all[j]])) ∧ Tk w' p (all.drop (j + 1)) y ∧ Keep (fun i => i = p) wx w') := fun wx j h hj => by
    have := next_yes wx p (all.drop j) y 1 h (by simp; omega)
    rw [List.drop_drop, List.drop_eq_getElem_cons hj, List.take_succ_cons, List.take_zero] at this
    exact this
  have cN : Hid (∀ wx j, Tk wx p (all.drop j) y → j = all.length → Calls Tryd.prog 69 #[ptr p, .int .u64 1] wx fun e w' => e = pan 2 ∧ Tk w' p (all.drop j) 2 ∧ Keep (fun i => i = p) wx w') := fun wx j h hj => next_no wx p (all.drop j) y 1 h (by simp; omega) (by decide)
  have cG : Hid (∀ wx j, Tk wx p (all.drop j) y → Calls Tryd.prog 70 #[ptr p, .int .i64 4] wx fun e w' => e = pan 4 ∧ Tk w' p (all.drop j) 4 ∧ Keep (fun i => i = p) wx w') := fun wx j h => giveUp_any wx p (all.drop j) y 4 h
  have H := Hid.mk' h
  clear h
  go_enter Tryd.func66, Tryd.ntmps66
  go_wp2
  go_loopw [3, 4] (fun uv iv wr => ∃ i u : Nat, i ≤ 9 ∧ i ≤ all.length ∧ iv = nu i ∧ uv = .int .u64 (u : Int) ∧ Hid (u < 128 ^ i) ∧ Hid (num all = numG (10 - i) i u (all.drop i)) ∧ Hid (Tk wr p (all.drop i) y) ∧ Hid (Keep (fun i => i = p) w wr)) (fun _ iv _ => 10 - (intOf iv).toNat)
  case atStart => exact ⟨0, 0, by omega, by omega, rfl, rfl, (by show 0 < 128 ^ 0; decide), rfl, H, Keep.refl _ _⟩
  case round =>
    obtain ⟨i, u, hi, hil, rfl, rfl, hu, hN, hR, hK⟩ := hrel
    by_cases hend : i = all.length
    · have C := Hid.mk' (cN.out _ _ hR.out hend)
      have hfin : Hid (num all = (0, 0, 2)) := by
        show _ = _
        rw [hN.out, List.drop_of_length_le (by omega), numG_nil _ _ _ (by omega)]
      go_wp2_with fail
      refine C.out.mono ?_
      rintro e w3 ⟨rfl, hT3, hK3⟩
      have HK3 := Hid.mk' (hK.out.trans hK3 (fun _ _ h => h))
      have HT3 := Hid.mk' hT3
      clear hT3 hK3 C
      go_wp2
      exact ⟨rfl, HK3.out, .inr ⟨by rw [hfin.out]; decide, by rw [hfin.out]; rfl, _, by rw [hfin.out]; exact HT3.out⟩⟩
    · have hlt : i < all.length := by omega
      have hx : all[i].toNat < 256 := all[i].toNat_lt
      have C := Hid.mk' (cY.out _ _ hR.out hlt)
      have hN' : Hid (num all = if (i = 9 ∧ 1 < all[i].toNat) ∨ (0 < i ∧ all[i].toNat = 0) then (0, 0, 4) else if all[i].toNat < 128 then (u + all[i].toNat * 128 ^ i, i + 1, 0) else numG (10 - (i + 1)) (i + 1) (u + (all[i].toNat - 128) * 128 ^ i) (all.drop (i + 1))) := by
        show _ = _
        rw [hN.out, List.drop_eq_getElem_cons hlt, numG_cons _ _ _ _ _ (by omega), show 10 - i - 1 = 10 - (i + 1) by omega]
      have hindex := fun wx => index_one all[i] wx
      obtain ⟨f, hf⟩ : ∃ f : ByteArray, tx [all[i]] = f := ⟨_, rfl⟩
      rw [hf] at C
      simp only [hf] at hindex
      clear hf
      generalize all[i].toNat = x at *
      have hrem : (x : Int).tmod 128 = ((x % 128 : Nat) : Int) := by rw [Int.tmod_eq_emod_of_nonneg (by omega)]; omega
      have hi0 : (0 : Int) ≤ (i : Int) := by omega
      go_wp2_with fail
      refine C.out.mono ?_
      rintro e w3 ⟨rfl, hR3, hK3⟩
      have HG := Hid.mk' (cG.out _ _ hR3)
      have HR3 := Hid.mk' hR3
      have HK3 := Hid.mk' (hK.out.trans hK3 (fun _ _ h => h))
      clear hR3 hK3 C
      by_cases hC : (i = 9 ∧ 1 < x) ∨ (0 < i ∧ x = 0)
      · have hfin : Hid (num all = (0, 0, 4)) := by show _ = _; rw [hN'.out, if_pos hC]
        have hcomb : (((x : Int) == 0) = true ∧ (0 : Int) < (i : Int)) ∨ (((x : Int) == 0) = false ∧ (1 : Int) < (x : Int) ∧ ((i : Int) == 9) = true) := by
          simp only [beq_iff_eq, beq_eq_false_iff_ne]
          omega
        clear hC
        rcases hcomb with ⟨e1, e2⟩ | ⟨e1, e2, e3⟩ <;> (
          go_wp2_with fail
          refine HG.out.mono ?_
          rintro e w4 ⟨rfl, hT4, hK4⟩
          have HK4 := Hid.mk' (HK3.out.trans hK4 (fun _ _ h => h))
          have HT4 := Hid.mk' hT4
          clear hT4 hK4 HG
          go_wp2
          exact ⟨rfl, HK4.out, .inr ⟨by rw [hfin.out]; decide, by rw [hfin.out]; rfl, _, by rw [hfin.out]; exact HT4.out⟩⟩)
      · obtain ⟨y', hy⟩ : ∃ y' : Nat, x % 128 = y' := ⟨_, rfl⟩
        rw [hy] at hrem
        have hy128 : y' < 128 := by omega
        have hcomb : (((x : Int) == 0) = true ∧ ¬ (0 : Int) < (i : Int) ∧ ¬ (1 : Int) < (x : Int)) ∨ (((x : Int) == 0) = false ∧ ¬ (1 : Int) < (x : Int)) ∨ (((x : Int) == 0) = false ∧ (1 : Int) < (x : Int) ∧ ((i : Int) == 9) = false) := by
          simp only [beq_iff_eq, beq_eq_false_iff_ne]
          omega
        have hlt2 := seven_lt u y' i hu.out hy128 (by omega) (fun h9 => by omega)
        have hor := Hid.mk' (or_more u y' i hu.out hy128 hlt2.2)
        have hu2 := Hid.mk' hlt2.1
        clear hlt2 HG
        by_cases hl : x < 128
        · have hl' : (x : Int) < 128 := by omega
          have hxy : x = y' := by omega
          have hfin : Hid (num all = (u + y' * 128 ^ i, i + 1, 0)) := by show _ = _; rw [hN'.out, if_neg hC, if_pos hl, ← hxy]
          clear hC hy hxy
          rcases hcomb with ⟨e1, e2, e3⟩ | hcomb
          · have hor0 : Hid (bits .or .u64 (u : Int) (y' : Int) = ((u + y' * 128 ^ i : Nat) : Int)) := by
              show _ = _
              have h1 : i = 0 := by omega
              have h2 := hu.out
              have h3 : x = 0 := by simpa using e1
              subst h1 h3
              have h4 : y' = 0 := by have := hrem; simp at this; omega
              have h5 : u = 0 := by simpa using h2
              subst h4 h5
              rfl
            go_wp2
            go_ret
            exact ⟨HK3.out, .inl ⟨by rw [hfin.out], by rw [hfin.out]; show Ending.returned (.int .u64 (bits .or .u64 (u : Int) (y' : Int))) = _; rw [hor0.out], by rw [hfin.out]; exact HR3.out⟩⟩
          · rcases hcomb with ⟨e1, e2⟩ | ⟨e1, e2, e3⟩ <;> (go_wp2; go_ret; exact ⟨HK3.out, .inl ⟨by rw [hfin.out], by rw [hfin.out]; show Ending.returned (.int .u64 (bits .or .u64 (u : Int) (IntKind.u64.wrap ((y' : Int) * 2 ^ (7 * i))))) = _; rw [hor.out], by rw [hfin.out]; exact HR3.out⟩⟩)
        · have hl' : ¬ (x : Int) < 128 := by omega
          have hxy : x - 128 = y' := by omega
          have hN2 : Hid (num all = numG (10 - (i + 1)) (i + 1) (u + y' * 128 ^ i) (all.drop (i + 1))) := by show _ = _; rw [hN'.out, if_neg hC, if_neg hl, hxy]
          have hi9 : i + 1 ≤ 9 := by omega
          clear hC hy hxy
          rcases hcomb with ⟨e1, e2, e3⟩ | ⟨e1, e2⟩ | ⟨e1, e2, e3⟩
          · omega
          · omega
          · go_wp2
            go_roundw
            case rel => exact ⟨i + 1, u + y' * 128 ^ i, hi9, by omega, by go_num, (by rw [hor.out]), hu2, hN2, HR3, HK3⟩
            case measure => simp [intOf]; omega

theorem clone_s (s : ByteArray) (w : World) (h : s.size ≤ 281474976710656) :
    Calls Tryd.prog 71 #[.string s] w fun e w' => e = .returned (.string s) ∧ Below w.heap.size w w' := by
  go_enter Tryd.func71, Tryd.ntmps71
  go_wp2_with (go_at_call 72; refine (Tryd.stringslite_Clone _ _ h).mono ?_; rintro e w1 ⟨rfl, hb1⟩)
  go_ret
  exact ⟨rfl, hb1⟩

/-- What a text ahead leaves. -/
def OutT (w w' : World) (q : Nat) (l : List UInt8) (m : Nat) (y : Int) (e : Ending) : Prop :=
  Keep (fun i => i = q) w w' ∧ (((taken l m).2.2 = 0 ∧ e = .returned (.string (tx (taken l m).1)) ∧ Tk w' q (l.drop (taken l m).2.1) y) ∨ ((taken l m).2.2 ≠ 0 ∧ e = pan ((taken l m).2.2 : Int) ∧ ∃ r, Tk w' q r ((taken l m).2.2 : Int)))

set_option maxRecDepth 100000 in
theorem text_take (w : World) (p : Nat) (l : List UInt8) (y : Int) (m : Nat) (h : Tk w p l y) (hm : m < 18446744073709551616) :
    Calls Tryd.prog 68 #[ptr p, u6 m] w fun e w' => OutT w w' p l m y e := by
  have C := Hid.mk' (number_take w p l y h)
  have hsz := Hid.mk' h.sz
  obtain ⟨v, n, no, hn⟩ : ∃ v n no, num l = (v, n, no) := ⟨_, _, _, rfl⟩
  have hv : no = 0 → v < 18446744073709551616 ∧ n ≤ l.length := fun h0 => by
    subst h0
    obtain ⟨a, _, b, _⟩ := num_back l v n hn
    exact ⟨a, b⟩
  have HV := Hid.mk' hv
  have hT : Hid (taken l m = if no ≠ 0 then ([], 0, no) else if m < v then ([], 0, 3) else if l.length - n < v then ([], 0, 2) else ((l.drop n).take v, n + v, 0)) := by
    show _ = _
    unfold taken
    rw [hn]
  have HN := Hid.mk' hn
  clear h hv hn
  go_enter Tryd.func68, Tryd.ntmps68
  go_wp2_with fail
  refine C.out.mono ?_
  rintro e w1 ⟨hK1, hO1⟩
  rw [HN.out] at hO1
  have HK1 := Hid.mk' hK1
  clear hK1 C
  rcases hO1 with ⟨h0, rfl, hT1⟩ | ⟨h0, rfl, r, hT1⟩
  · simp only at h0 hT1
    have hTk := Hid.mk' hT1
    have hvn := HV.out h0
    clear hT1
    have hv64 : v < 18446744073709551616 := hvn.1
    have hnl : n ≤ l.length := hvn.2
    have hT2 : Hid (taken l m = if m < v then ([], 0, 3) else if l.length - n < v then ([], 0, 2) else ((l.drop n).take v, n + v, 0)) := by
      show _ = _
      rw [hT.out, if_neg (by omega)]
    clear hT hvn HV
    by_cases hmv : m < v
    · have hmv' : (m : Int) < (v : Int) := by omega
      have hfin : Hid (taken l m = ([], 0, 3)) := by show _ = _; rw [hT2.out, if_pos hmv]
      have CG := Hid.mk' (giveUp_any w1 p _ y 3 hTk.out)
      go_wp2_with fail
      refine CG.out.mono ?_
      rintro e w2 ⟨rfl, hT3, hK3⟩
      have HT3 := Hid.mk' hT3
      have HK3 := Hid.mk' (HK1.out.trans hK3 (fun _ _ h => h))
      clear hT3 hK3 CG
      go_wp2
      exact ⟨rfl, HK3.out, .inr ⟨by rw [hfin.out]; decide, by rw [hfin.out]; rfl, _, by rw [hfin.out]; exact HT3.out⟩⟩
    · have hmv' : ¬ (m : Int) < (v : Int) := by omega
      by_cases hs : l.length - n < v
      · have hfin : Hid (taken l m = ([], 0, 2)) := by show _ = _; rw [hT2.out, if_neg hmv, if_pos hs]
        have CX := Hid.mk' (next_no w1 p _ y v hTk.out (by simp; omega) hv64)
        go_wp2_with fail
        refine CX.out.mono ?_
        rintro e w2 ⟨rfl, hT3, hK3⟩
        have HT3 := Hid.mk' hT3
        have HK3 := Hid.mk' (HK1.out.trans hK3 (fun _ _ h => h))
        clear hT3 hK3 CX
        go_wp2
        exact ⟨rfl, HK3.out, .inr ⟨by rw [hfin.out]; decide, by rw [hfin.out]; rfl, _, by rw [hfin.out]; exact HT3.out⟩⟩
      · have hfin : Hid (taken l m = ((l.drop n).take v, n + v, 0)) := by show _ = _; rw [hT2.out, if_neg hmv, if_neg hs]
        have CX := Hid.mk' (next_yes w1 p _ y v hTk.out (by simp; omega))
        have hlen : (tx ((l.drop n).take v)).size ≤ 281474976710656 := by
          show ((l.drop n).take v).length ≤ _
          have := hsz.out
          simp
          omega
        have CC : Hid (∀ wx, Calls Tryd.prog 71 #[.string (tx ((l.drop n).take v))] wx fun e w' => e = .returned (.string (tx ((l.drop n).take v))) ∧ Below wx.heap.size wx w') := fun wx => clone_s _ _ hlen
        clear hlen
        obtain ⟨f, hf⟩ : ∃ f, tx ((l.drop n).take v) = f := ⟨_, rfl⟩
        rw [hf] at CX CC
        have HF := Hid.mk' hf
        clear hf
        go_wp2_with fail
        refine CX.out.mono ?_
        rintro e w2 ⟨rfl, hT3, hK3⟩
        have HT3 := Hid.mk' hT3
        have HK3 := Hid.mk' (HK1.out.trans hK3 (fun _ _ h => h))
        clear hT3 hK3 CX
        go_wp2_with fail
        refine (CC.out _).mono ?_
        rintro e w3 ⟨rfl, hb4⟩
        have HT4 := Hid.mk' (HT3.out.below hb4)
        have HK4 := Hid.mk' (keep_below HK3.out hb4)
        clear hb4 CC
        go_wp2
        go_ret
        exact ⟨HK4.out, .inl ⟨by rw [hfin.out], by rw [hfin.out, HF.out]; rfl, by rw [hfin.out]; have := HT4.out; rw [List.drop_drop] at this; exact this⟩⟩
  · simp only at h0 hT1
    have hfin : Hid (taken l m = ([], 0, no)) := by show _ = _; rw [hT.out, if_pos h0]
    have HT1 := Hid.mk' hT1
    have H0 := Hid.mk' h0
    clear hT1 h0
    go_wp2
    exact ⟨rfl, HK1.out, .inr ⟨by rw [hfin.out]; exact H0.out, by rw [hfin.out], _, by rw [hfin.out]; exact HT1.out⟩⟩
end Pp
end Pk
end Go.Proofs.YtnllplholfhbdaaDoor
/- The reader's faces: a panic that a deferred literal catches. -/
namespace Go.Proofs.YtnllplholfhbdaaDoor
set_option linter.ambiguousOpen false
open Go.RowKit
namespace Pk
namespace Pp
open Sm Ft
set_option linter.unusedSimpArgs false
set_option linter.unusedVariables false

theorem two_newF (w : World) (A B : Obj) : ((w.alloc A).alloc B).heap[w.heap.size]? = some A ∧ ((w.alloc A).alloc B).heap[w.heap.size + 1]? = some B := by
  have s1 : (w.alloc A).heap.size = w.heap.size + 1 := by simp
  have a := heap_alloc_new w A
  have b := heap_alloc_new (w.alloc A) B
  rw [s1] at b
  exact ⟨by rw [Below.heap_alloc _ _ _ (by omega)]; exact a, b⟩

/-- The literal at the face, where the body has panicked. -/
theorem catch_num (a er : Nat) (s : Value) (no z : Int) (y : Value) (older : List PanicEntry) (w : World) (h : w.heap[a]? = some (.cells #[s, .int .i64 z] 145)) (he : w.heap[er]? = some (.cells #[y] 34)) :
    CallsD Tryd.prog 65 #[ptr a, ptr er] (.panicking ({ v := .iface 60 (.int .i64 no), recovered := false } :: older)) w fun e u' w' =>
      e = .returned (.tuple #[]) ∧ u' = .panicking ({ v := .iface 60 (.int .i64 no), recovered := true } :: older) ∧ w' = w.setCell ⟨er, 0, none⟩ (.iface 60 (.int .i64 z)) := by
  have q1 : w.cell? ⟨a, 1, none⟩ = some (.int .i64 z) := by simp [World.cell?, h]
  obtain ⟨e4, e5⟩ := one_cell he
  clear h he
  refine callsD_of_wpS Tryd.func65 rfl fun c₀ cs hu => ?_
  apply wpS_seq
  apply wpS_region
  simp only [Tryd.ntmps65, List.size_toArray, List.length_cons, List.length_nil, Nat.reduceAdd, Nat.reduceSub, Array.replicate_succ, Array.replicate_zero, List.push_toArray, List.append_toArray, List.nil_append, List.cons_append]
  simp [wpOpsS, go_sem, recoverD, hu, Exit.thenS]
  refine wpS_of_wp ?_
  go_wp2
  simp [bodyPostS, results, Tryd.results65]

theorem idle_num (a er : Nat) (w : World) :
    CallsD Tryd.prog 65 #[ptr a, ptr er] .returning w fun e u' w' => e = .returned (.tuple #[]) ∧ u' = .returning ∧ w' = w := by
  refine callsD_of_wpS Tryd.func65 rfl fun c₀ cs hu => ?_
  apply wpS_seq
  apply wpS_region
  simp only [Tryd.ntmps65, List.size_toArray, List.length_cons, List.length_nil, Nat.reduceAdd, Nat.reduceSub, Array.replicate_succ, Array.replicate_zero, List.push_toArray, List.append_toArray, List.nil_append, List.cons_append]
  simp [wpOpsS, go_sem, recoverD, hu, Exit.thenS]
  refine wpS_of_wp ?_
  go_wp2
  cases c₀
  simp_all [bodyPostS, results, Tryd.results65]

set_option maxRecDepth 100000 in
theorem num_face (w : World) (p : Nat) (l : List UInt8) (h : Rd w p l) :
    Calls Tryd.prog 63 #[ptr p] w fun e w' => e = .returned (.tuple #[u6 (num l).1, errE (num l).2.2]) ∧ Rd w' p (l.drop (num l).2.1) ∧ Keep (fun i => i = p) w w' := by
  have hmf : ∀ (fn : Fn) (first cap : Array Value) (w : World), (Instr.makeFunc fn first cap).run Tryd.prog w = .ok (.func fn first cap) w := fun _ _ _ _ => rfl
  obtain ⟨q0, qf⟩ := h.cells
  have HR := Hid.mk' h
  have hp := h.lt
  have hb1 : Below w.heap.size w (w.alloc (.cells #[.nilIface] 34)) := (Below.refl _ w).alloc (Nat.le_refl _) _
  have hb2 : Below w.heap.size w ((w.alloc (.cells #[.nilIface] 34)).alloc (.cells #[.string (tx l), .int .i64 0] 145)) := hb1.alloc (by simp) _
  obtain ⟨r0, rf⟩ := (h.below hb1).cells
  obtain ⟨n0, n1⟩ := two_newF w (.cells #[.nilIface] 34) (.cells #[.string (tx l), .int .i64 0] 145)
  have C := Hid.mk' (number_take _ (w.heap.size + 1) l 0 ⟨n1, h.sz⟩)
  have HB2 := Hid.mk' hb2
  have hblk := Hid.mk' (And.intro n0 ((h.below hb2).blk))
  have hsz := Hid.mk' h.sz
  clear h hb1 hb2 n0 n1
  obtain ⟨f, hf⟩ : ∃ f, tx l = f := ⟨_, rfl⟩
  rw [hf] at q0 r0 C HB2 hblk
  have HF := Hid.mk' hf
  clear hf
  go_enter_defers Tryd.func63, Tryd.ntmps63
  go_wp2_with fail
  refine C.out.mono ?_
  rintro e w5 ⟨hK5, hO5⟩
  obtain ⟨b0, b1⟩ := hblk.out
  have d0 := hK5.at b0 (by omega)
  have d1 := hK5.at b1 (by omega)
  have HK5 : Hid (Keep (fun i => i = p ∨ w.heap.size ≤ i) w w5) := ((Keep.of_below HB2.out).trans (hK5.weaken (G := fun i => i = p ∨ w.heap.size ≤ i) (fun _ _ e => .inr (by omega))) (fun _ _ h => h))
  clear b0 b1 hblk r0 rf C hK5 HB2 q0 qf
  rcases hO5 with ⟨hz, rfl, hT5⟩ | ⟨hz, rfl, r, hT5⟩
  · obtain ⟨t0, t1, _, _⟩ := hT5.cells
    obtain ⟨m, hm⟩ : ∃ m, l.drop (num l).2.1 = m := ⟨_, rfl⟩
    have hml : m.length ≤ l.length := by rw [← hm]; simp
    rw [hm] at t0 hT5
    have HM := Hid.mk' hm
    obtain ⟨z1, zf1⟩ := one_cell d1
    have hR5 : Rd w5 p l := ⟨by rw [HF.out]; exact d1, hsz.out⟩
    obtain ⟨hRs, hKs⟩ := hR5.set hml
    have d0' := hKs.at d0 (by omega)
    obtain ⟨z2, zf2⟩ := one_cell d0'
    have d0f : ((w5.setCell ⟨p, 0, none⟩ (.string (tx m))).setCell ⟨w.heap.size, 0, none⟩ .nilIface).heap[w.heap.size]? = some (.cells #[.nilIface] 34) := heap_setCell_same _ _ 0 _ _ _ d0'
    have hKf : Keep (fun i => i = w.heap.size) (w5.setCell ⟨p, 0, none⟩ (.string (tx m))) ((w5.setCell ⟨p, 0, none⟩ (.string (tx m))).setCell ⟨w.heap.size, 0, none⟩ .nilIface) := (Keep.refl (fun i => i = w.heap.size) _).setCell (p := ⟨w.heap.size, 0, none⟩) (.inl rfl) _
    obtain ⟨f2, _⟩ := one_cell d0f
    have HRf := Hid.mk' (hRs.keep hKf (by omega))
    have HKf : Hid (Keep (fun i => i = p) w ((w5.setCell ⟨p, 0, none⟩ (.string (tx m))).setCell ⟨w.heap.size, 0, none⟩ .nilIface)) := ((HK5.out.trans hKs (fun _ _ h => .inl h)).trans hKf (fun i hi e => .inr (by omega))).weaken (fun i hi e => by
      rcases e with e | e
      · exact e
      · omega)
    have HZ := Hid.mk' hz
    clear d0 d1 d0' d0f hKf hKs hRs hR5 hT5 hz hm hml t1
    obtain ⟨g, hg⟩ : ∃ g, tx m = g := ⟨_, rfl⟩
    rw [hg] at t0 z2 zf2 f2 HRf HKf
    go_wp2
    refine leaves_cons (f := 65) (args := #[ptr (w.heap.size + 1), ptr w.heap.size]) (by simp) (by simp [go_sem]) ?_
    refine (idle_num _ _ _).mono ?_
    rintro e u' w6 ⟨rfl, rfl, rfl⟩
    simp only [settle]
    refine ⟨.tuple #[.int .u64 ((num l).1 : Int), .nilIface], ?_, by rw [HZ.out]; rfl, by rw [HM.out]; exact HRf.out, HKf.out⟩
    clear HRf HKf
    generalize (w5.setCell ⟨p, 0, none⟩ (.string g)).setCell ⟨w.heap.size, 0, none⟩ .nilIface = wf at *
    simp [results, Tryd.results63, go_sem, f2]
  · obtain ⟨no, hno⟩ : ∃ no, (num l) = (0, 0, no + 1) := by
      obtain ⟨x, n, m, hn⟩ : ∃ x n m, num l = (x, n, m) := ⟨_, _, _, rfl⟩
      have h2 := numG_no 10 0 0 l
      rw [show numG 10 0 0 l = (x, n, m) from hn] at h2
      rw [hn] at hz
      rcases h2 with h2 | ⟨h2, h3, _⟩
      · exact absurd h2 hz
      · simp at h2 h3 hz
        subst h2 h3
        exact ⟨m - 1, by rw [hn, show m - 1 + 1 = m by omega]⟩
    rw [hno] at hT5 ⊢
    have HNO := Hid.mk' hno
    clear hno
    have hC := Hid.mk' (catch_num (w.heap.size + 1) w.heap.size _ ((no + 1 : Nat) : Int) ((no + 1 : Nat) : Int) .nilIface [] w5 hT5.blk d0)
    have hR5 : Rd w5 p l := ⟨by rw [HF.out]; exact d1, hsz.out⟩
    have hKf : Keep (fun i => i = w.heap.size) w5 (w5.setCell ⟨w.heap.size, 0, none⟩ (.iface 60 (.int .i64 ((no + 1 : Nat) : Int)))) := (Keep.refl (fun i => i = w.heap.size) _).setCell (p := ⟨w.heap.size, 0, none⟩) (.inl rfl) _
    have HRf := Hid.mk' (hR5.keep hKf (by omega))
    have HKf : Hid (Keep (fun i => i = p) w (w5.setCell ⟨w.heap.size, 0, none⟩ (.iface 60 (.int .i64 ((no + 1 : Nat) : Int))))) := (HK5.out.trans hKf (fun i hi e => .inr (by omega))).weaken (fun i hi e => by
      rcases e with e | e
      · exact e
      · omega)
    have d0f : (w5.setCell ⟨w.heap.size, 0, none⟩ (.iface 60 (.int .i64 ((no + 1 : Nat) : Int)))).heap[w.heap.size]? = some (.cells #[.iface 60 (.int .i64 ((no + 1 : Nat) : Int))] 34) := heap_setCell_same _ _ 0 _ _ _ d0
    obtain ⟨f2, _⟩ := one_cell d0f
    clear d0f
    clear d0 d1 hKf hR5 hT5 hz
    go_wp2
    refine leaves_cons (f := 65) (args := #[ptr (w.heap.size + 1), ptr w.heap.size]) (by simp) (by simp [go_sem]) ?_
    refine hC.out.mono ?_
    rintro e u' w6 ⟨rfl, rfl, rfl⟩
    simp only [settle]
    refine ⟨.tuple #[.int .u64 0, .iface 60 (.int .i64 ((no + 1 : Nat) : Int))], ?_, by rw [HNO.out]; rfl, by rw [HNO.out]; exact HRf.out, HKf.out⟩
    clear HRf HKf hC
    generalize ((no + 1 : Nat) : Int) = z at *
    generalize w5.setCell ⟨w.heap.size, 0, none⟩ (.iface 60 (.int .i64 z)) = wf at *
    simp [results, Tryd.results63, go_sem, f2]

theorem max_zero (most : Int) (wx : World) : (Builtin.max_ #[3, 3] 3 #[nu most, nu 0]).run Tryd.prog wx = .ok (nu (most.toNat : Int)) wx := by
  rw [run_max_int2, show (if (0 : Int) > most then (0 : Int) else most) = (most.toNat : Int) by split <;> omega]

/-- The literal at the face, where the body has panicked. -/
theorem catch_txtR (a er : Nat) (s : Value) (no z : Int) (y : Value) (older : List PanicEntry) (w : World) (h : w.heap[a]? = some (.cells #[s, .int .i64 z] 145)) (he : w.heap[er]? = some (.cells #[y] 34)) :
    CallsD Tryd.prog 67 #[ptr a, ptr er] (.panicking ({ v := .iface 60 (.int .i64 no), recovered := false } :: older)) w fun e u' w' =>
      e = .returned (.tuple #[]) ∧ u' = .panicking ({ v := .iface 60 (.int .i64 no), recovered := true } :: older) ∧ w' = w.setCell ⟨er, 0, none⟩ (.iface 60 (.int .i64 z)) := by
  have q1 : w.cell? ⟨a, 1, none⟩ = some (.int .i64 z) := by simp [World.cell?, h]
  obtain ⟨e4, e5⟩ := one_cell he
  clear h he
  refine callsD_of_wpS Tryd.func67 rfl fun c₀ cs hu => ?_
  apply wpS_seq
  apply wpS_region
  simp only [Tryd.ntmps67, List.size_toArray, List.length_cons, List.length_nil, Nat.reduceAdd, Nat.reduceSub, Array.replicate_succ, Array.replicate_zero, List.push_toArray, List.append_toArray, List.nil_append, List.cons_append]
  simp [wpOpsS, go_sem, recoverD, hu, Exit.thenS]
  refine wpS_of_wp ?_
  go_wp2
  simp [bodyPostS, results, Tryd.results67]

theorem idle_txtR (a er : Nat) (w : World) :
    CallsD Tryd.prog 67 #[ptr a, ptr er] .returning w fun e u' w' => e = .returned (.tuple #[]) ∧ u' = .returning ∧ w' = w := by
  refine callsD_of_wpS Tryd.func67 rfl fun c₀ cs hu => ?_
  apply wpS_seq
  apply wpS_region
  simp only [Tryd.ntmps67, List.size_toArray, List.length_cons, List.length_nil, Nat.reduceAdd, Nat.reduceSub, Array.replicate_succ, Array.replicate_zero, List.push_toArray, List.append_toArray, List.nil_append, List.cons_append]
  simp [wpOpsS, go_sem, recoverD, hu, Exit.thenS]
  refine wpS_of_wp ?_
  go_wp2
  cases c₀
  simp_all [bodyPostS, results, Tryd.results67]

set_option maxRecDepth 100000 in
theorem txtR_face (w : World) (p : Nat) (l : List UInt8) (m0 : Int) (m1 : Nat) (hm1 : m0.toNat = m1) (h : Rd w p l) (hm0 : -9223372036854775808 ≤ m0 ∧ m0 ≤ 9223372036854775807) :
    Calls Tryd.prog 64 #[ptr p, nu m0] w fun e w' => e = .returned (.tuple #[.string (tx (taken l m1).1), errE (taken l m1).2.2]) ∧ Rd w' p (l.drop (taken l m1).2.1) ∧ Keep (fun i => i = p) w w' := by
  have hmf : ∀ (fn : Fn) (first cap : Array Value) (w : World), (Instr.makeFunc fn first cap).run Tryd.prog w = .ok (.func fn first cap) w := fun _ _ _ _ => rfl
  obtain ⟨q0, qf⟩ := h.cells
  have HR := Hid.mk' h
  have hp := h.lt
  have hb1 : Below w.heap.size w (w.alloc (.cells #[.nilIface] 34)) := (Below.refl _ w).alloc (Nat.le_refl _) _
  have hb2 : Below w.heap.size w ((w.alloc (.cells #[.nilIface] 34)).alloc (.cells #[.string (tx l), .int .i64 0] 145)) := hb1.alloc (by simp) _
  obtain ⟨r0, rf⟩ := (h.below hb1).cells
  obtain ⟨n0, n1⟩ := two_newF w (.cells #[.nilIface] 34) (.cells #[.string (tx l), .int .i64 0] 145)
  have C := Hid.mk' (text_take _ (w.heap.size + 1) l 0 m1 ⟨n1, h.sz⟩ (by omega))
  have HB2 := Hid.mk' hb2
  have hblk := Hid.mk' (And.intro n0 ((h.below hb2).blk))
  have hsz := Hid.mk' h.sz
  clear h hb1 hb2 n0 n1
  obtain ⟨f, hf⟩ : ∃ f, tx l = f := ⟨_, rfl⟩
  rw [hf] at q0 r0 C HB2 hblk
  have HF := Hid.mk' hf
  clear hf
  have hmx : ∀ wx, (Builtin.max_ #[3, 3] 3 #[nu m0, nu 0]).run Tryd.prog wx = .ok (nu (m1 : Int)) wx := fun wx => by
    rw [← hm1]
    exact max_zero m0 wx
  have hm64 : m1 < 9223372036854775808 := by omega
  clear hm1 hm0
  go_enter_defers Tryd.func64, Tryd.ntmps64
  go_wp2_with fail
  refine C.out.mono ?_
  rintro e w5 ⟨hK5, hO5⟩
  obtain ⟨b0, b1⟩ := hblk.out
  have d0 := hK5.at b0 (by omega)
  have d1 := hK5.at b1 (by omega)
  have HK5 : Hid (Keep (fun i => i = p ∨ w.heap.size ≤ i) w w5) := ((Keep.of_below HB2.out).trans (hK5.weaken (G := fun i => i = p ∨ w.heap.size ≤ i) (fun _ _ e => .inr (by omega))) (fun _ _ h => h))
  clear b0 b1 hblk r0 rf C hK5 HB2 q0 qf
  rcases hO5 with ⟨hz, rfl, hT5⟩ | ⟨hz, rfl, r, hT5⟩
  · obtain ⟨t0, t1, _, _⟩ := hT5.cells
    obtain ⟨m, hm⟩ : ∃ m, l.drop (taken l m1).2.1 = m := ⟨_, rfl⟩
    have hml : m.length ≤ l.length := by rw [← hm]; simp
    rw [hm] at t0 hT5
    have HM := Hid.mk' hm
    obtain ⟨z1, zf1⟩ := one_cell d1
    have hR5 : Rd w5 p l := ⟨by rw [HF.out]; exact d1, hsz.out⟩
    obtain ⟨hRs, hKs⟩ := hR5.set hml
    have d0' := hKs.at d0 (by omega)
    obtain ⟨z2, zf2⟩ := one_cell d0'
    have d0f : ((w5.setCell ⟨p, 0, none⟩ (.string (tx m))).setCell ⟨w.heap.size, 0, none⟩ .nilIface).heap[w.heap.size]? = some (.cells #[.nilIface] 34) := heap_setCell_same _ _ 0 _ _ _ d0'
    have hKf : Keep (fun i => i = w.heap.size) (w5.setCell ⟨p, 0, none⟩ (.string (tx m))) ((w5.setCell ⟨p, 0, none⟩ (.string (tx m))).setCell ⟨w.heap.size, 0, none⟩ .nilIface) := (Keep.refl (fun i => i = w.heap.size) _).setCell (p := ⟨w.heap.size, 0, none⟩) (.inl rfl) _
    obtain ⟨f2, _⟩ := one_cell d0f
    have HRf := Hid.mk' (hRs.keep hKf (by omega))
    have HKf : Hid (Keep (fun i => i = p) w ((w5.setCell ⟨p, 0, none⟩ (.string (tx m))).setCell ⟨w.heap.size, 0, none⟩ .nilIface)) := ((HK5.out.trans hKs (fun _ _ h => .inl h)).trans hKf (fun i hi e => .inr (by omega))).weaken (fun i hi e => by
      rcases e with e | e
      · exact e
      · omega)
    have HZ := Hid.mk' hz
    clear d0 d1 d0' d0f hKf hKs hRs hR5 hT5 hz hm hml t1
    obtain ⟨g, hg⟩ : ∃ g, tx m = g := ⟨_, rfl⟩
    rw [hg] at t0 z2 zf2 f2 HRf HKf
    go_wp2
    refine leaves_cons (f := 67) (args := #[ptr (w.heap.size + 1), ptr w.heap.size]) (by simp) (by simp [go_sem]) ?_
    refine (idle_txtR _ _ _).mono ?_
    rintro e u' w6 ⟨rfl, rfl, rfl⟩
    simp only [settle]
    refine ⟨.tuple #[.string (tx (taken l m1).1), .nilIface], ?_, by rw [HZ.out]; rfl, by rw [HM.out]; exact HRf.out, HKf.out⟩
    clear HRf HKf
    generalize (w5.setCell ⟨p, 0, none⟩ (.string g)).setCell ⟨w.heap.size, 0, none⟩ .nilIface = wf at *
    simp [results, Tryd.results64, go_sem, f2]
  · obtain ⟨no, hno⟩ : ∃ no, (taken l m1) = ([], 0, no + 1) := by
      have hz' := hz
      unfold taken at hz ⊢
      by_cases h1 : (num l).2.2 ≠ 0
      · rw [if_pos h1]
        exact ⟨(num l).2.2 - 1, by rw [show (num l).2.2 - 1 + 1 = (num l).2.2 by omega]⟩
      · rw [if_neg h1] at hz ⊢
        by_cases h2 : m1 < (num l).1
        · rw [if_pos h2]
          exact ⟨2, rfl⟩
        · rw [if_neg h2] at hz ⊢
          by_cases h3 : l.length - (num l).2.1 < (num l).1
          · rw [if_pos h3]
            exact ⟨1, rfl⟩
          · rw [if_neg h3] at hz
            exact absurd rfl hz
    rw [hno] at hT5 ⊢
    have HNO := Hid.mk' hno
    clear hno
    have hC := Hid.mk' (catch_txtR (w.heap.size + 1) w.heap.size _ ((no + 1 : Nat) : Int) ((no + 1 : Nat) : Int) .nilIface [] w5 hT5.blk d0)
    have hR5 : Rd w5 p l := ⟨by rw [HF.out]; exact d1, hsz.out⟩
    have hKf : Keep (fun i => i = w.heap.size) w5 (w5.setCell ⟨w.heap.size, 0, none⟩ (.iface 60 (.int .i64 ((no + 1 : Nat) : Int)))) := (Keep.refl (fun i => i = w.heap.size) _).setCell (p := ⟨w.heap.size, 0, none⟩) (.inl rfl) _
    have HRf := Hid.mk' (hR5.keep hKf (by omega))
    have HKf : Hid (Keep (fun i => i = p) w (w5.setCell ⟨w.heap.size, 0, none⟩ (.iface 60 (.int .i64 ((no + 1 : Nat) : Int))))) := (HK5.out.trans hKf (fun i hi e => .inr (by omega))).weaken (fun i hi e => by
      rcases e with e | e
      · exact e
      · omega)
    have d0f : (w5.setCell ⟨w.heap.size, 0, none⟩ (.iface 60 (.int .i64 ((no + 1 : Nat) : Int)))).heap[w.heap.size]? = some (.cells #[.iface 60 (.int .i64 ((no + 1 : Nat) : Int))] 34) := heap_setCell_same _ _ 0 _ _ _ d0
    obtain ⟨f2, _⟩ := one_cell d0f
    clear d0f
    clear d0 d1 hKf hR5 hT5 hz
    go_wp2
    refine leaves_cons (f := 67) (args := #[ptr (w.heap.size + 1), ptr w.heap.size]) (by simp) (by simp [go_sem]) ?_
    refine hC.out.mono ?_
    rintro e u' w6 ⟨rfl, rfl, rfl⟩
    simp only [settle]
    refine ⟨.tuple #[.string ⟨#[]⟩, .iface 60 (.int .i64 ((no + 1 : Nat) : Int))], ?_, by rw [HNO.out]; rfl, by rw [HNO.out]; exact HRf.out, HKf.out⟩
    clear HRf HKf hC
    generalize ((no + 1 : Nat) : Int) = z at *
    generalize w5.setCell ⟨w.heap.size, 0, none⟩ (.iface 60 (.int .i64 z)) = wf at *
    simp [results, Tryd.results64, go_sem, f2]
end Pp
end Pk
end Go.Proofs.YtnllplholfhbdaaDoor
/- What the program's pack answers, call by call (for programs that do not reach all of its calls). -/
namespace Go.Proofs.YtnllplholfhbdaaDoor
set_option linter.ambiguousOpen false
open Go.RowKit
namespace Pk
namespace Pp
open Sm Ft
set_option linter.unusedSimpArgs false
set_option linter.unusedVariables false

theorem open_any (w : World) (v : Value) (b : List UInt8) (h : RdB w v b) (hl : b.length ≤ 140737488351232) :
    Calls Tryd.prog 36 #[v] w fun e w' => ∃ p F, e = .returned (ptr p) ∧ RR w' p F b ∧ (∀ k, F k → w.heap.size ≤ k) ∧ Below w.heap.size w w' := by
  have hcv := conv_rd h
  obtain ⟨a, cap, rfl, _⟩ := h
  go_enter Tryd.func36, Tryd.ntmps36
  go_wp2
  go_ret
  exact ⟨w.heap.size, _, rfl, ⟨⟨heap_alloc_new _ _, hl⟩, rfl⟩, fun k hk => by subst hk; exact Nat.le_refl _, (Below.refl _ _).alloc (Nat.le_refl _) _⟩

theorem end_any (w : World) (p : Nat) (l : List UInt8) (h : Rd w p l) :
    Calls Tryd.prog 38 #[ptr p] w fun e w' => e = .returned (errE (if l.length = 0 then 0 else 3)) ∧ Below w.heap.size w w' := by
  obtain ⟨q0, qf⟩ := h.cells
  clear h
  cases l with
  | nil =>
    have q1 : w.cell? ⟨p, 0, none⟩ = some (.string ⟨#[]⟩) := q0
    clear q0
    go_enter Tryd.func38, Tryd.ntmps38
    go_wp2
    go_ret
    exact ⟨rfl, Below.refl _ _⟩
  | cons x l =>
    have hne : (tx (x :: l)).toList.isEmpty = false := by
      rw [ByteArray.toList_eq]
      rfl
    obtain ⟨f, hf⟩ : ∃ f, tx (x :: l) = f := ⟨_, rfl⟩
    rw [hf] at q0 hne
    clear hf
    go_enter Tryd.func38, Tryd.ntmps38
    go_wp2
    go_ret
    exact ⟨rfl, Below.refl _ _⟩

theorem keepW {w w' : World} {p : Nat} {F G : Nat → Prop} {l : List UInt8} (h : RW w p F l) (hk : Keep G w w') (hn : ∀ k, F k → ¬ G k) : RW w' p F l := by
  obtain ⟨v, h, rfl⟩ := h
  exact ⟨v, h.keep hk hn, rfl⟩

theorem ltW {w : World} {p : Nat} {F : Nat → Prop} {l : List UInt8} (h : RW w p F l) : ∀ k, F k → k < w.heap.size := by
  obtain ⟨v, h, rfl⟩ := h
  exact fun k hk => h.lt k hk

theorem keepR {w w' : World} {p : Nat} {F G : Nat → Prop} {l : List UInt8} (h : RR w p F l) (hk : Keep G w w') (hn : ∀ k, F k → ¬ G k) : RR w' p F l := by
  obtain ⟨h, rfl⟩ := h
  exact ⟨h.keep hk (hn p rfl), rfl⟩

theorem ltR {w : World} {p : Nat} {F : Nat → Prop} {l : List UInt8} (h : RR w p F l) : ∀ k, F k → k < w.heap.size := by
  obtain ⟨h, rfl⟩ := h
  intro k hk
  rw [show k = p from hk]
  exact h.lt

theorem number_rw (w : World) (p : Nat) (F : Nat → Prop) (l : List UInt8) (v : Nat) (h : RW w p F l) (hn : v < 18446744073709551616) (hl : (l ++ sev v).length ≤ 140737488351232) : Calls Tryd.prog 27 #[ptr p, u6 v] w fun e w' => (∃ u, e = .returned u) ∧ ∃ F', RW w' p F' (l ++ sev v) ∧ Keep F w w' ∧ Goes w F F' := by
  obtain ⟨v', h, rfl⟩ := h
  refine (number_put w p v' l v h hn hl).mono ?_
  rintro e w' ⟨hu, v', a, b, c⟩
  exact ⟨hu, _, ⟨v', a, rfl⟩, b, goes_moves c⟩

theorem text_rw (w : World) (p : Nat) (F : Nat → Prop) (l s : List UInt8) (h : RW w p F l) (hl : (l ++ txt s).length ≤ 140737488351232) : Calls Tryd.prog 101 #[ptr p, .string (tx s)] w fun e w' => (∃ u, e = .returned u) ∧ ∃ F', RW w' p F' (l ++ txt s) ∧ Keep F w w' ∧ Goes w F F' := by
  obtain ⟨v, h, rfl⟩ := h
  refine (text_put w p v l s h hl).mono ?_
  rintro e w' ⟨hu, v', a, b, c⟩
  exact ⟨hu, _, ⟨v', a, rfl⟩, b, goes_moves c⟩

theorem bytes_rw (w : World) (p : Nat) (F : Nat → Prop) (l : List UInt8) (h : RW w p F l) (hl : l.length ≤ 140737488351232) : Calls Tryd.prog 28 #[ptr p] w fun e w' => ∃ v, e = .returned v ∧ w'.ownsRow w.heap.size 5 1 v l.length (l.map by1) ∧ Below w.heap.size w w' := by
  obtain ⟨v, h, rfl⟩ := h
  exact bytes_put w p v l h hl

theorem end_rw (w : World) (p : Nat) (F : Nat → Prop) (l : List UInt8) (h : RR w p F l) : Calls Tryd.prog 38 #[ptr p] w fun e w' => e = .returned (errE (if l.length = 0 then 0 else 3)) ∧ Below w.heap.size w w' := by
  obtain ⟨h, rfl⟩ := h
  exact end_any w p l h

theorem rnum_rw (w : World) (p : Nat) (F : Nat → Prop) (l : List UInt8) (h : RR w p F l) : Calls Tryd.prog 63 #[ptr p] w fun e w' => e = .returned (.tuple #[u6 (num l).1, errE (num l).2.2]) ∧ ∃ F', RR w' p F' (l.drop (num l).2.1) ∧ Keep F w w' ∧ Goes w F F' := by
  obtain ⟨h, rfl⟩ := h
  refine (num_face w p l h).mono ?_
  rintro e w' ⟨a, b, c⟩
  exact ⟨a, _, ⟨b, rfl⟩, c, Goes.refl _ _⟩

theorem rtext_rw (w : World) (p : Nat) (F : Nat → Prop) (l : List UInt8) (m : Int) (h : RR w p F l) (hm : -9223372036854775808 ≤ m ∧ m ≤ 9223372036854775807) : Calls Tryd.prog 64 #[ptr p, nu m] w fun e w' => e = .returned (.tuple #[.string (tx (taken l m.toNat).1), errE (taken l m.toNat).2.2]) ∧ ∃ F', RR w' p F' (l.drop (taken l m.toNat).2.1) ∧ Keep F w w' ∧ Goes w F F' := by
  obtain ⟨h, rfl⟩ := h
  refine (txtR_face w p l m m.toNat rfl h hm).mono ?_
  rintro e w' ⟨a, b, c⟩
  exact ⟨a, _, ⟨b, rfl⟩, c, Goes.refl _ _⟩
end Pp
end Pk
end Go.Proofs.YtnllplholfhbdaaDoor
