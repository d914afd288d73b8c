/- The calls of the document's disk. -/
import Derived.Test.YtlgjnefieflmbaaDoorRaws
namespace Go.Proofs.YtlgjnefieflmbaaDoor
set_option linter.ambiguousOpen false
open Go.RowKit
namespace Dk
open Sm Ft
set_option linter.unusedSimpArgs false
set_option linter.unusedVariables false

theorem rNew_yes (n : Int) (w : World) (h1 : 1 ≤ n) (h2 : n ≤ 4096) :
    Calls Tryd.prog 8 #[nu n] w fun e w' => e = .returned (.tuple #[.pointer (some ⟨w.heap.size, 0, none⟩), nu 0]) ∧ RDk w' w.heap.size w.heap.size (.slice none 0 0) ⟨n, -1, []⟩ ∧ Below w.heap.size w w' := by
  have hR : Hid (RDk (w.alloc (.cells #[nu n, .slice none 0 0, nu (-1)] 45)) w.heap.size w.heap.size (.slice none 0 0) ⟨n, -1, []⟩) := ⟨heap_alloc_new _ _, World.ownsRow_nil _ _ _ _, Nat.le_refl _, by simp [Value.ownBlock]⟩
  have hB : Hid (Below w.heap.size w (w.alloc (.cells #[nu n, .slice none 0 0, nu (-1)] 45))) := (Below.refl _ _).alloc (Nat.le_refl _) _
  go_enter Tryd.func8, Tryd.ntmps8
  go_wp2
  go_ret2
  exact ⟨rfl, hR.out, hB.out⟩

theorem rNew_no (n : Int) (w : World) (h : ¬ (1 ≤ n ∧ n ≤ 4096)) :
    Calls Tryd.prog 8 #[nu n] w fun e w' => e = .returned (.tuple #[.pointer none, nu 1]) ∧ w' = w := by
  by_cases h1 : n < 1
  · clear h
    go_enter Tryd.func8, Tryd.ntmps8
    go_wp2
    go_ret2
    exact ⟨rfl, rfl⟩
  · have h2 : 4096 < n := by omega
    clear h
    go_enter Tryd.func8, Tryd.ntmps8
    go_wp2
    go_ret2
    exact ⟨rfl, rfl⟩

set_option maxHeartbeats 1000000 in
theorem rRead_any (d : Dsk) (base g : Nat) (v : Value) (i : Int) (w : World) (h : RDk w base g v d) (hl : d.tr.length ≤ 1000000000) :
    Calls Tryd.prog 64 #[.pointer (some ⟨g, 0, none⟩), nu i] w fun e w' => e = .returned (.tuple #[.string (tx (rdT d i)), nu (rdN d i)]) ∧ w' = w := by
  obtain ⟨k0, k1, k2⟩ := h.cells
  have HR := Hid.mk' h.row
  clear h
  by_cases h1 : i < 0
  · have ht : Hid (rdT d i = []) := by unfold rdT; rw [if_neg (by omega)]; rfl
    have hn : Hid (rdN d i = 1) := by unfold rdN; rw [if_neg (by omega)]; rfl
    go_enter Tryd.func64, Tryd.ntmps64
    go_wp2
    go_ret2
    exact ⟨by rw [ht.out, hn.out]; rfl, rfl⟩
  by_cases h2 : d.n ≤ i
  · have ht : Hid (rdT d i = []) := by unfold rdT; rw [if_neg (by omega)]; rfl
    have hn : Hid (rdN d i = 1) := by unfold rdN; rw [if_neg (by omega)]; rfl
    go_enter Tryd.func64, Tryd.ntmps64
    go_wp2
    go_ret2
    exact ⟨by rw [ht.out, hn.out]; rfl, rfl⟩
  have ht : Hid (rdT d i = lastK i d.tr d.tr.length) := by unfold rdT; rw [if_pos (by omega)]; rfl
  have hn : Hid (rdN d i = 0) := by unfold rdN; rw [if_pos (by omega)]; rfl
  obtain ⟨vd, hvd⟩ : ∃ vd, v = vd := ⟨_, rfl⟩
  obtain ⟨a, cap, rfl, hcap, hcm⟩ : ∃ a cap, v = .slice a d.tr.length cap ∧ d.tr.length ≤ cap ∧ cap ≤ maxLen := by
    rcases HR.out.2 with ⟨rfl, h0⟩ | ⟨g', cap, cur, rfl, _, _, h3, h4, _⟩
    · exact ⟨none, 0, by rw [h0], by omega, by decide⟩
    · exact ⟨_, cap, rfl, h3, h4⟩
  clear hvd
  unfold maxLen at hcm
  go_enter Tryd.func64, Tryd.ntmps64
  go_wp2
  go_loopw [6] (fun iv wr => ∃ k : Nat, k ≤ d.tr.length ∧ iv = nu ((k : Int) - 1) ∧ Hid (wr = w) ∧ Hid (lastK i d.tr k = lastK i d.tr d.tr.length)) (fun iv _ => (intOf iv + 1).toNat)
  case atStart => exact ⟨d.tr.length, Nat.le_refl _, rfl, rfl, rfl⟩
  case round =>
    obtain ⟨k, hk, rfl, hwr, hT⟩ := hrel
    cases k with
    | zero =>
      rw [show (((0 : Nat) : Int) - 1) = -1 from rfl]
      go_wp2
      go_ret2
      exact ⟨by rw [ht.out, hn.out, ← hT.out]; rfl, hwr.out⟩
    | succ k =>
      obtain ⟨r, hr⟩ : ∃ r, d.tr[k]? = some r := ⟨_, List.getElem?_eq_getElem (by omega)⟩
      have hz : 0 < d.tr.length := by omega
      obtain ⟨g', cap', e, _, _, _, _⟩ : ∃ g' cap', (Value.slice a d.tr.length cap) = .slice (some ⟨g', 0, none⟩) d.tr.length cap' ∧ d.tr.length ≤ cap' ∧ cap' ≤ maxLen ∧ base ≤ g' ∧ g' < w.heap.size := by
        rcases HR.out.2 with ⟨_, h0⟩ | ⟨g', cap', cur, h0, h1, h2, h3, h4, _⟩
        · omega
        · exact ⟨g', cap', h0, h3, h4, h1, (Array.getElem?_eq_some_iff.1 h2).1⟩
      simp only [Value.slice.injEq, true_and] at e
      obtain ⟨rfl, rfl⟩ := e
      obtain ⟨q0, q1⟩ := raw_cells HR.out k r hr rfl
      have hst : lastK i d.tr (k + 1) = if r.1 = i then r.2 else lastK i d.tr k := by rw [lastK, hr]
      obtain ⟨rb, rt⟩ := r
      rw [← hwr.out] at q0 q1 k0 k1 k2
      have HS := Hid.mk' hst
      clear hst hr
      rw [show (((k + 1 : Nat) : Int) - 1) = (k : Int) from by omega]
      by_cases he : rb = i
      · have heb : (rb == i) = true := by simpa using he
        go_wp2
        go_ret2
        exact ⟨by rw [ht.out, hn.out, ← hT.out, HS.out, if_pos he]; rfl, hwr.out⟩
      · have heb : (rb == i) = false := by simpa using he
        go_wp2
        go_roundw
        case rel => exact ⟨k, by omega, rfl, hwr, by show _ = _; rw [← hT.out, HS.out, if_neg he]⟩
        case measure => simp [intOf]

/-- Where the row lies behind a call: where it lay, or in what is new. -/
def Moves (w : World) (v v' : Value) : Prop := ∀ k, v'.ownBlock = some k → v.ownBlock = some k ∨ w.heap.size ≤ k

theorem Moves.refl (w : World) (v : Value) : Moves w v v := fun _ h => .inl h

theorem RDk.setLeft {w : World} {base g : Nat} {v : Value} {d : Dsk} (h : RDk w base g v d) (x : Int) : RDk (w.setCell ⟨g, 2, none⟩ (.int .i64 x)) base g v ⟨d.n, x, d.tr⟩ :=
  ⟨heap_setCell_same _ g 2 _ _ _ h.blk, ((Keep.refl (fun k => k = g) w).setCell (p := ⟨g, 2, none⟩) (.inl rfl) _).own h.row (fun k hk e => h.ne (by rw [hk, e])), h.lo, h.ne⟩

theorem RDk.put {w w4 : World} {base g g2 cap2 H : Nat} {v : Value} {d : Dsk} {r : Raw} {o : Obj} (h : RDk w base g v d) (ho : w4.ownsRow base 71 2 (.slice (some ⟨g2, 0, none⟩) (d.tr.length + 1) cap2) (d.tr.length + 1) (rcs d.tr ++ rc r)) (hg : (w.alloc o).grownBy w4 v.ownBlock) (h2 : v.ownBlock = some g2 ∨ g2 = H + 1) (hH : w.heap.size = H) :
    w4.heap[g]? = some (.cells #[nu d.n, v, nu d.left] 45) ∧ RDk (w4.setCell ⟨g, 1, none⟩ (.slice (some ⟨g2, 0, none⟩) (d.tr.length + 1) cap2)) base g (.slice (some ⟨g2, 0, none⟩) (d.tr.length + 1) cap2) ⟨d.n, d.left, d.tr ++ [r]⟩ ∧ Keep (rfp g v) w (w4.setCell ⟨g, 1, none⟩ (.slice (some ⟨g2, 0, none⟩) (d.tr.length + 1) cap2)) ∧ Moves w v (.slice (some ⟨g2, 0, none⟩) (d.tr.length + 1) cap2) := by
  have hlt : g < w.heap.size := (Array.getElem?_eq_some_iff.1 h.blk).1
  have hne : g2 ≠ g := by
    rcases h2 with h2 | h2
    · intro e; exact h.ne (by rw [h2, e])
    · omega
  have hb : w4.heap[g]? = some (.cells #[nu d.n, v, nu d.left] 45) := by
    rw [hg.block g (by simp; omega) (fun e => h.ne e.symm), Below.heap_alloc _ _ _ hlt]
    exact h.blk
  refine ⟨hb, ⟨heap_setCell_same _ g 1 _ _ _ hb, ?_, h.lo, ?_⟩, ?_, ?_⟩
  · have := ((Keep.refl (fun k => k = g) w4).setCell (p := ⟨g, 1, none⟩) (.inl rfl) (.slice (some ⟨g2, 0, none⟩) (d.tr.length + 1) cap2)).own ho (fun k hk e => by
      simp [Value.ownBlock] at hk
      omega)
    show (w4.setCell _ _).ownsRow base _ 2 _ (d.tr ++ [r]).length (rcs (d.tr ++ [r]))
    rw [List.length_append, List.length_singleton, rcs_snoc]
    exact this
  · simp [Value.ownBlock]
    exact hne
  · exact ((((Keep.refl (rfp g v) w).alloc o).grown hg (fun k hk => .inl (.inr hk))).setCell (p := ⟨g, 1, none⟩) (.inl (.inl rfl)) _)
  · intro k hk
    simp [Value.ownBlock] at hk
    subst hk
    rcases h2 with h2 | h2
    · exact .inl h2
    · exact .inr (by omega)

theorem dk_cells {w : World} {g : Nat} {n l : Int} {v : Value} (h : w.heap[g]? = some (.cells #[nu n, v, nu l] 45)) : w.cell? ⟨g, 0, none⟩ = some (nu n) ∧ w.cell? ⟨g, 1, none⟩ = some v ∧ w.cell? ⟨g, 2, none⟩ = some (nu l) := by
  simp [World.cell?, h]

theorem dk_free {w : World} {g : Nat} {n l : Int} {v : Value} (h : w.heap[g]? = some (.cells #[nu n, v, nu l] 45)) (i : Nat) : w.frozen? ⟨g, i, none⟩ = false := by
  simp [World.frozen?, h]

set_option maxRecDepth 100000 in
set_option maxHeartbeats 2000000 in
theorem rWrite_any (d : Dsk) (base g : Nat) (v : Value) (i : Int) (s : List UInt8) (w : World) (h : RDk w base g v d) (hl : d.tr.length ≤ 1000000000) (hb : base ≤ w.heap.size) (hs : s.length ≤ maxLen) (hd : -9223372036854775808 ≤ d.left ∧ d.left ≤ 9223372036854775807) :
    Calls Tryd.prog 12 #[.pointer (some ⟨g, 0, none⟩), nu i, .string (tx s)] w fun e w' => e = .returned (nu (wrN d i s)) ∧ ∃ v', RDk w' base g v' (wrD d i s) ∧ Keep (rfp g v) w w' ∧ Moves w v v' := by
  obtain ⟨i0, hi, hz0, hz1, hz2⟩ := info_parts info_raw
  obtain ⟨k0, k1, k2⟩ := h.cells
  have hf := h.free
  have HR := Hid.mk' h
  have hsz : (tx s).size = s.length := rfl
  unfold maxLen at hs
  clear h
  by_cases h1 : i < 0
  · have hn : Hid (wrN d i s = 1) := by unfold wrN; rw [if_neg (by omega)]; rfl
    have hD : Hid (wrD d i s = d) := by unfold wrD; rw [hn.out, if_neg (by decide)]; rfl
    generalize tx s = f at *
    go_enter Tryd.func12, Tryd.ntmps12
    go_wp2
    go_ret
    exact ⟨by rw [hn.out]; rfl, v, by rw [hD.out]; exact HR.out, Keep.refl _ _, Moves.refl _ _⟩
  by_cases h2 : d.n ≤ i
  · have hn : Hid (wrN d i s = 1) := by unfold wrN; rw [if_neg (by omega)]; rfl
    have hD : Hid (wrD d i s = d) := by unfold wrD; rw [hn.out, if_neg (by decide)]; rfl
    generalize tx s = f at *
    go_enter Tryd.func12, Tryd.ntmps12
    go_wp2
    go_ret
    exact ⟨by rw [hn.out]; rfl, v, by rw [hD.out]; exact HR.out, Keep.refl _ _, Moves.refl _ _⟩
  by_cases h3 : 256 < s.length
  · have hn : Hid (wrN d i s = 3) := by unfold wrN; rw [if_pos (by omega), if_pos h3]; rfl
    have hD : Hid (wrD d i s = d) := by unfold wrD; rw [hn.out, if_neg (by decide)]; rfl
    generalize tx s = f at *
    go_enter Tryd.func12, Tryd.ntmps12
    go_wp2
    go_ret
    exact ⟨by rw [hn.out]; rfl, v, by rw [hD.out]; exact HR.out, Keep.refl _ _, Moves.refl _ _⟩
  by_cases h4 : d.left = 0
  · have hn : Hid (wrN d i s = 22) := by unfold wrN; rw [if_pos (by omega), if_neg h3, if_pos h4]; rfl
    have hD : Hid (wrD d i s = d) := by unfold wrD; rw [hn.out, if_neg (by decide)]; rfl
    have h4b : (d.left == 0) = true := by simpa using h4
    generalize tx s = f at *
    go_enter Tryd.func12, Tryd.ntmps12
    go_wp2
    go_ret
    exact ⟨by rw [hn.out]; rfl, v, by rw [hD.out]; exact HR.out, Keep.refl _ _, Moves.refl _ _⟩
  have hn : Hid (wrN d i s = 0) := by unfold wrN; rw [if_pos (by omega), if_neg h3, if_neg h4]; rfl
  have h4b : (d.left == 0) = false := by simpa using h4
  by_cases h5 : 0 < d.left
  · have hD : Hid (wrD d i s = ⟨d.n, d.left - 1, d.tr ++ [(i, s)]⟩) := by unfold wrD; rw [hn.out, if_pos rfl, if_pos h5]; rfl
    have hR1 := Hid.mk' (HR.out.setLeft (d.left - 1))
    have hK1 : Hid (Keep (rfp g v) w (w.setCell ⟨g, 2, none⟩ (.int .i64 (d.left - 1)))) := (Keep.refl _ _).setCell (p := ⟨g, 2, none⟩) (.inl (.inl rfl)) _
    have hrc : Hid (rc (i, s) = [nu i, .string (tx s)]) := rfl
    have hss : (w.setCell ⟨g, 2, none⟩ (.int .i64 (d.left - 1))).heap.size = w.heap.size := by simp [World.setCell]
    generalize tx s = f at *
    go_enter Tryd.func12, Tryd.ntmps12
    have hnb : Hid (((w.setCell ⟨g, 2, none⟩ (.int .i64 (d.left - 1))).alloc (.cells #[nu i, .string f] 71)).heap[w.heap.size]? = some (.cells #[nu i, .string f] 71)) := by
      have := heap_alloc_new (w.setCell ⟨g, 2, none⟩ (.int .i64 (d.left - 1))) (.cells #[nu i, .string f] 71)
      rw [hss] at this
      exact this
    have hone : Hid (∀ u ∈ [nu i, Value.string f], u.oneCell' = true) := by intro u hu; simp at hu; rcases hu with rfl | rfl <;> rfl
    have hmx : Hid (d.tr.length + 1 ≤ maxLen) := by show _ ≤ _; unfold maxLen; omega
    have hby : Hid ((d.tr.length + 1) * 24 ≤ 140737488355328) := by show _ ≤ _; omega
    have hbb : Hid (base ≤ ((w.setCell ⟨g, 2, none⟩ (.int .i64 (d.left - 1))).alloc (.cells #[nu i, .string f] 71)).heap.size) := by show _ ≤ _; simp; omega
    have hsz1 : Hid (((w.setCell ⟨g, 2, none⟩ (.int .i64 (d.left - 1))).alloc (.cells #[nu i, .string f] 71)).heap.size = w.heap.size + 1) := by show _ = _; simp
    have HSS := Hid.mk' hss
    clear hss
    go_wp2_with (at_builtin; refine wpList_append_lies _ rfl _ _ 43 rfl base 71 i0 (.agg #[.int .i64 0, .string ⟨#[]⟩]) 2 24 Tryd.underlying43 hi hz0 hz1 hz2 rfl (by decide) v d.tr.length (rcs d.tr) rfl (hR1.out.row.alloc _) ⟨w.heap.size, 0, none⟩ 1 1 [nu i, .string f] rfl rfl (World.news_of_block hnb.out) hone.out (by decide) hmx.out hby.out hbb.out (w.heap.size + 1) hsz1.out ?_; intro g2 cap2 w4 hown4 hgrow hg2 hlt2; rw [← hrc.out] at hown4; obtain ⟨hblk, hRd, hKp, hMv⟩ := RDk.put hR1.out hown4 hgrow hg2 HSS.out; obtain ⟨z0, z1, z2⟩ := dk_cells hblk; have zf := dk_free hblk; have HRd := Hid.mk' hRd; have HKp := Hid.mk' hKp; have HMv := Hid.mk' hMv; clear hblk hRd hKp hMv hown4 hgrow)
    go_wp2
    go_ret
    exact ⟨by rw [hn.out]; rfl, _, by rw [hD.out]; exact HRd.out, hK1.out.trans HKp.out (fun _ _ hk => hk), fun k hk => by rcases HMv.out k hk with h | h; exact .inl h; exact .inr (by rw [HSS.out] at h; exact h)⟩
  · have hD : Hid (wrD d i s = ⟨d.n, d.left, d.tr ++ [(i, s)]⟩) := by unfold wrD; rw [hn.out, if_pos rfl, if_neg h5]; rfl
    have hR1 := HR
    have hrc : Hid (rc (i, s) = [nu i, .string (tx s)]) := rfl
    have hss : w.heap.size = w.heap.size := rfl
    generalize tx s = f at *
    go_enter Tryd.func12, Tryd.ntmps12
    have hnb : Hid ((w.alloc (.cells #[nu i, .string f] 71)).heap[w.heap.size]? = some (.cells #[nu i, .string f] 71)) := by
      have := heap_alloc_new w (.cells #[nu i, .string f] 71)
      exact this
    have hone : Hid (∀ u ∈ [nu i, Value.string f], u.oneCell' = true) := by intro u hu; simp at hu; rcases hu with rfl | rfl <;> rfl
    have hmx : Hid (d.tr.length + 1 ≤ maxLen) := by show _ ≤ _; unfold maxLen; omega
    have hby : Hid ((d.tr.length + 1) * 24 ≤ 140737488355328) := by show _ ≤ _; omega
    have hbb : Hid (base ≤ (w.alloc (.cells #[nu i, .string f] 71)).heap.size) := by show _ ≤ _; simp; omega
    have hsz1 : Hid ((w.alloc (.cells #[nu i, .string f] 71)).heap.size = w.heap.size + 1) := by show _ = _; simp
    have HSS := Hid.mk' hss
    clear hss
    go_wp2_with (at_builtin; refine wpList_append_lies _ rfl _ _ 43 rfl base 71 i0 (.agg #[.int .i64 0, .string ⟨#[]⟩]) 2 24 Tryd.underlying43 hi hz0 hz1 hz2 rfl (by decide) v d.tr.length (rcs d.tr) rfl (hR1.out.row.alloc _) ⟨w.heap.size, 0, none⟩ 1 1 [nu i, .string f] rfl rfl (World.news_of_block hnb.out) hone.out (by decide) hmx.out hby.out hbb.out (w.heap.size + 1) hsz1.out ?_; intro g2 cap2 w4 hown4 hgrow hg2 hlt2; rw [← hrc.out] at hown4; obtain ⟨hblk, hRd, hKp, hMv⟩ := RDk.put hR1.out hown4 hgrow hg2 HSS.out; obtain ⟨z0, z1, z2⟩ := dk_cells hblk; have zf := dk_free hblk; have HRd := Hid.mk' hRd; have HKp := Hid.mk' hKp; have HMv := Hid.mk' hMv; clear hblk hRd hKp hMv hown4 hgrow)
    go_wp2
    go_ret
    exact ⟨by rw [hn.out]; rfl, _, by rw [hD.out]; exact HRd.out, HKp.out, HMv.out⟩

theorem rCut_any (d : Dsk) (base g : Nat) (v : Value) (n : Int) (w : World) (h : RDk w base g v d) :
    Calls Tryd.prog 14 #[.pointer (some ⟨g, 0, none⟩), nu n] w fun e w' => (∃ u, e = .returned u) ∧ RDk w' base g v ⟨d.n, max n (-1), d.tr⟩ ∧ Keep (rfp g v) w w' := by
  obtain ⟨k0, k1, k2⟩ := h.cells
  have hf := h.free
  have hm : ∀ wx, (Builtin.max_ #[3, 3] 3 #[nu n, nu (-1)]).run Tryd.prog wx = .ok (nu (max n (-1))) wx := fun wx => by
    rw [run_max_int2, show (if (-1 : Int) > n then (-1 : Int) else n) = max n (-1) by split <;> omega]
  have hR1 := Hid.mk' (h.setLeft (max n (-1)))
  have hK1 : Hid (Keep (rfp g v) w (w.setCell ⟨g, 2, none⟩ (.int .i64 (max n (-1))))) := (Keep.refl _ _).setCell (p := ⟨g, 2, none⟩) (.inl (.inl rfl)) _
  generalize max n (-1) = m at *
  clear h
  go_enter Tryd.func14, Tryd.ntmps14
  go_wp2
  go_end0
  exact ⟨⟨_, rfl⟩, hR1.out, hK1.out⟩
end Dk
end Go.Proofs.YtlgjnefieflmbaaDoor
