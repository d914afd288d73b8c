import Derived.Test.YthdibodmnpcekaaGreatDoorPrgV
import Derived.Test.YthdibodmnpcekaaGreatDoorBlkM
import Derived.Deep.DeepAppendWide
import Derived.OwnWalkIn
/- The program's Scan. -/
namespace Go.Proofs.YthdibodmnpcekaaGreatDoor
set_option linter.ambiguousOpen false
open Go.RowKit
namespace Rc
namespace Pr
open Sm Pk
set_option linter.unusedSimpArgs false
set_option linter.unusedVariables false
attribute [local go_sem] Oper.semAt_some

/-- What Scan has gathered. -/
structure Got (w0 W : World) (hi B1 B2 ep : Nat) (pre : List (Nat × List UInt8)) (pv : Value) (vs : List Value) : Prop where
  b1 : Boxed W B1 39 pv
  b2 : Boxed W B2 3 (nu (ends ep 0 pre : Int))
  own : W.ownsRow hi 46 1 pv vs.length vs
  rows : Rows W hi vs (pre.map (·.2))
  bel : Below w0.heap.size w0 W

theorem Got.rest {w0 A B : World} {lo hi B1 B2 ep : Nat} {pre : List (Nat × List UInt8)} {pv : Value} {vs : List Value} {row : Option Nat} (h : Got w0 A hi B1 B2 ep pre pv vs) (hw : w0.heap.size ≤ lo) (h1 : B1 < lo) (h2 : B2 < lo) (hg : A.grownBy B row) (hr : Rf.Away lo hi A row) : Got w0 B hi B1 B2 ep pre pv vs := by
  have ne : ∀ b, b < lo → some b ≠ row := fun b hb e => by have := (hr b e.symm).1; omega
  exact ⟨h.b1.kept hg (ne _ h1), h.b2.kept hg (ne _ h2), hr.row h.own (Nat.le_refl _) hg, ⟨h.rows.len, fun k v p hv hp => hr.row (h.rows.own k v p hv hp) (Nat.le_refl _) hg, h.rows.apart⟩, h.bel.grown hg h.bel.size (fun r e => by have := (hr r e).1; omega)⟩

theorem Got.step {w0 W0 W w1 : World} {X : Nat → Prop} {lo hi B1 B2 ep : Nat} {kk : Int} {pre : List (Nat × List UInt8)} {x : Nat × List UInt8} {pv v pv' : Value} {vs : List Value} {tmp : Obj}
    (h0 : Got w0 W0 hi B1 B2 ep pre pv vs) (hb : Below W0.heap.size W0 W) (hv : EncR x W0.heap.size W v) (hlo : lo ≤ hi) (hsz : hi ≤ W0.heap.size) (hB1 : B1 < lo) (hB2 : B2 < lo) (hne : B1 ≠ B2) (hX1 : ¬ X B1) (hX2 : ¬ X B2) (hX : ∀ b, X b → b < lo) (hn1 : w0.heap.size ≤ B1) (hn2 : w0.heap.size ≤ B2) (hk : kk = (ends ep 0 (pre ++ [x]) : Int))
    (hown : w1.ownsRow hi 46 1 pv' (vs.length + 1) (vs ++ [v])) (hgrow : (W.alloc tmp).grownBy w1 pv.ownBlock) :
    Got w0 ((w1.setCell ⟨B1, 0, none⟩ pv').setCell ⟨B2, 0, none⟩ (nu kk)) hi B1 B2 ep (pre ++ [x]) pv' (vs ++ [v]) ∧ Rf.Leaves X lo hi W ((w1.setCell ⟨B1, 0, none⟩ pv').setCell ⟨B2, 0, none⟩ (nu kk)) ∧ Boxed w1 B1 39 pv ∧ Boxed (w1.setCell ⟨B1, 0, none⟩ pv') B2 3 (nu (ends ep 0 pre : Int)) := by
  subst hk
  have hi0 : w0.heap.size ≤ hi := by omega
  have hG : Got w0 W hi B1 B2 ep pre pv vs := ⟨(hb.block _ h0.b1.lt).trans h0.b1, (hb.block _ h0.b2.lt).trans h0.b2, own_keptB h0.own hb, h0.rows.below hb, h0.bel.trans (hb.mono h0.bel.size)⟩
  obtain ⟨hv1, hv2, hr2, hk2, hb2, ho2⟩ := Rf.collected (X := X) (lo := lo) (n := w0.heap.size) hG.b1 (by decide) hG.own hB1 hX1 hX hlo (Nat.le_trans hsz hb.size) hn1 hown hgrow
  have hB2' := ho2 B2 _ _ hB2 hne.symm hG.b2
  have hrs : Rows W hi (vs ++ [v]) ((pre ++ [x]).map (·.2)) := by
    rw [List.map_append]
    refine hG.rows.snoc hv hsz (fun u hu b hub => ?_)
    obtain ⟨p, hp⟩ := h0.rows.at_ hu
    exact (hp.lt b hub).2
  have hra : Rows (W.alloc tmp) hi (vs ++ [v]) ((pre ++ [x]).map (·.2)) := hrs.below ((Below.refl _ _).alloc (Nat.le_refl _) _)
  have hr1 : Rows w1 hi (vs ++ [v]) ((pre ++ [x]).map (·.2)) := hra.kept hgrow (fun u hu => by
    obtain ⟨p, hp⟩ := hra.at_ hu
    exact sep_keptR (own_sep (hG.own.alloc tmp) hp (by decide)))
  have hr3 : Rows (w1.setCell ⟨B1, 0, none⟩ pv') hi (vs ++ [v]) ((pre ++ [x]).map (·.2)) := hr1.kept (grownBy_setCell' _ _ _) (fun u hu => by
    obtain ⟨p, hp⟩ := hr1.at_ hu
    exact sep_box hp (by omega))
  have hr4 : Rows ((w1.setCell ⟨B1, 0, none⟩ pv').setCell ⟨B2, 0, none⟩ (nu (ends ep 0 (pre ++ [x]) : Int))) hi (vs ++ [v]) ((pre ++ [x]).map (·.2)) := hr3.kept (grownBy_setCell' _ _ _) (fun u hu => by
    obtain ⟨p, hp⟩ := hr3.at_ hu
    exact sep_box hp (by omega))
  refine ⟨⟨hv2.other hne _, hB2'.set _, ?_, hr4, ?_⟩, ?_, hv1, hB2'⟩
  · rw [List.length_append]
    exact hr2.kept (grownBy_setCell' _ _ _) (sep_box hr2 (by omega))
  · exact (hG.bel.trans hb2).setCell (p := ⟨B2, 0, none⟩) hn2 _
  · refine hk2.trans (Rf.Leaves.grown (grownBy_setCell' _ _ _) (fun r e => ?_))
    cases e
    exact ⟨hX2, .inl hB2⟩

theorem Made.base {w0 w : World} {ep : Nat} {ls : List (List UInt8)} {Be Bl : Nat} {cv : Value} (h : Made w0 w ep ls Be Bl cv) : Base3 w ep ls Be Bl cv := ⟨h.e, h.l, Nm.rd_own h.row⟩

theorem enc_put (x : Nat × List UInt8) (b : Nat) (W : World) (v : Value) (l : Nat) (o : Obj) (h : EncR x b W v) (hl : l < b) : EncR x b (W.putObj l o) v := World.ownsRow.kept (show W.ownsRow _ _ _ _ _ _ from h) (grownBy_putObj' W l o) (sep_box (show W.ownsRow _ _ _ _ _ _ from h) hl)

theorem wpListIn_append_wide {F : Fence} {n : Nat} {P : Program} (w : World) {ops : Array Oper} {rest : List Oper} {o : Oper} {a : Act} {Q : Exit → Act → World → Prop}
    (hg : o.guard = none) (s x : Operand) (t : TypeId) (hop : o.op = Op.call { callee := Callee.builtin Builtin.append, args := #[s, x], argTypes := #[t, t] })
    (base : Nat) (e : TypeId) (i : TypeInfo) (z : Value) (size bytes : Nat) (h1 : P.underlying t = some (.slice e)) (h2 : P.info? e = some i) (h3 : i.zero = some z) (h4 : i.size = size) (h5 : i.bytes = bytes) (h6 : z.cells.size = size) (h7 : 0 < size)
    (v : Value) (k : Nat) (xs : List Value) (hs : a.eval s = v) (hown : w.ownsRow base e size v k xs) (ad : Addr) (m c : Nat) (news : List Value) (hx : a.eval x = .slice (some ad) m c) (hn : news.length = m * size)
    (hc : ∀ j u, news[j]? = some u → w.cell? (ad.add j) = some u) (h1c : ∀ u ∈ news, u.oneCell' = true) (b1 : k + m ≤ maxLen) (b2 : ((k + m) + (k + m) / 4 + 192) * bytes ≤ 281474976710656) (b3 : base ≤ w.heap.size)
    (hK : ∀ v' w', w'.ownsRow base e size v' (k + m) (xs ++ news) → w.grownBy w' v.ownBlock → (v' = .slice none 0 0 ↔ v = .slice none 0 0 ∧ m = 0) → wpListIn F n P ops Q rest (a.put o.dst v') w') :
    wpListIn F n P ops Q (o :: rest) a w := by
  refine wpListIn_plain hg fun K hK' => ?_
  obtain ⟨v', w', hrun, r1, r2, r3⟩ := run_append_own_wide (P := P) w base t o.type e i z size bytes h1 h2 h3 h4 h5 h6 h7 v k xs hown ad m c news hn hc h1c b1 b2 b3
  unfold Oper.wpIn
  refine ⟨?_, ?_⟩
  · simp [Oper.about, hop, resolve, Target.leads, Sem.run_pure]
  · rw [Oper.semAt_plain F _ _ (by rw [hop]; intro c hc'; cases hc')]
    simp [execOp, hop, resolve, invoke, builtin, hs, hx, hrun, Result.andThen]
    exact hK' _ _ (hK v' w' r1 r2 r3)

/-- What Scan answers, over every list of texts that fits. -/
def ScanW : Prop := ∀ (w : World) (ep : Nat) (v : Value) (ls : List (List UInt8)), ep < 4294967296 → Nm.Rd w v ls → ls.length ≤ 8796093022208 → (∀ t ∈ ls, t.length ≤ 9223372036854775807) → Calls Tryz.prog 17 #[.int .u32 (ep : Int), v] w fun e w' => ∃ r vs, e = .returned (.tuple #[r, nu ((scan ep ls).2.2 : Int)]) ∧ w'.ownsRow w.heap.size 46 1 r vs.length vs ∧ Rows w' w.heap.size vs (scan ep ls).1 ∧ (∀ v ∈ vs, Nm.Sep r v) ∧ Below w.heap.size w w'

set_option maxRecDepth 1000000 in
set_option maxHeartbeats 4000000 in
theorem scan_w : ScanW := by
  intro w ep v ls hep hR hn hT
  obtain ⟨i1, ji1, kz0, kz1, kz2⟩ := info_parts (show (Tryz.prog.info? 46).map (fun i => (i.zero, i.size, i.bytes)) = some (some (.slice none 0 0), 1, 24) by kernel_rfl)
  have q0 : Below w.heap.size w ((w.alloc (.cells #[.slice none 0 0] 39)).alloc (.cells #[.int .i64 0] 3)) := ((Below.refl _ w).alloc (Nat.le_refl _) _).alloc (by simp) _
  have b1 : Boxed ((w.alloc (.cells #[.slice none 0 0] 39)).alloc (.cells #[.int .i64 0] 3)) w.heap.size 39 (.slice none 0 0) := (Boxed.new w _ _).alloc _
  have b2 : Boxed ((w.alloc (.cells #[.slice none 0 0] 39)).alloc (.cells #[.int .i64 0] 3)) (w.heap.size + 1) 3 (.int .i64 0) := by
    have := Boxed.new (w.alloc (.cells #[.slice none 0 0] 39)) 3 (.int .i64 0)
    simpa using this
  have hs0 : ((w.alloc (.cells #[.slice none 0 0] 39)).alloc (.cells #[.int .i64 0] 3)).heap.size = w.heap.size + 2 := by simp
  have C := Hid.mk' (fun h => allMake_p ep v ls _ (hR.below q0) h)
  obtain ⟨A, hA⟩ : ∃ A, recs ep 0 ls = A := ⟨_, rfl⟩
  have HA1 : Hid ((scan ep ls).1 = A.map (·.2)) := by
    show _ = _
    rw [← hA, recs_pays]
  have HA2 : Hid ((scan ep ls).2.2 = ends ep 0 A) := by
    show _ = _
    rw [← hA, scan_ends]
  have HAl : Hid (A.length ≤ 8796093022208) := by
    have h1 := recs_len ep ls
    rw [hA] at h1
    show _ ≤ _
    omega
  have HAs : Hid (∀ x ∈ A, x.2.length ≤ 512 ∧ x.1 + (blocks ep x.2).length ≤ 8796093022208) := fun x hx => by
    have := recs_in ep ls.length 0 ls (Nat.le_refl _) x (by rw [hA]; exact hx)
    exact ⟨this.1, by omega⟩
  have HSEQ : Hid (∀ w' Be Bl cv, Base3 w' ep ls Be Bl cv → Rf.SeqV Tryz.prog 61 #[.pointer (some ⟨Bl, 0, none⟩), .pointer (some ⟨Be, 0, none⟩)] (fun x v => #[nu (x.1 : Int), v]) EncR (fun b => b = Be ∨ b = Bl ∨ cv.ownBlock = some b) A w') := fun w' Be Bl cv hb => by
    rw [← hA]
    exact all_seq ep Be Bl cv ls w' hep hb hn hT
  rw [HA1.out, HA2.out]
  obtain ⟨a, cap, rfl, _⟩ := hR
  refine (callsIn_wide (n := 8)).1 ?_
  refine callsIn_of_wp_marks Tryz.func17 rfl trivial ?_ rfl
  refine wpIn_wide.2 ?_
  simp only [Tryz.ntmps17, List.size_toArray, List.length_cons, List.length_nil, Nat.reduceAdd, Nat.reduceSub, Array.replicate_succ, Array.replicate_zero, List.push_toArray, List.append_toArray, List.nil_append, List.cons_append]
  go_wp2_with fail
  refine (C.out hn).mono ?_
  rintro e w2 ⟨Be, Bl, cv, rfl, hM⟩
  have hMs := hM.bel.size
  rw [hs0] at hMs
  have hme := hM.be
  have hml := hM.bl
  rw [hs0] at hme hml
  have hcb : ∀ b, cv.ownBlock = some b → w.heap.size + 2 ≤ b ∧ b < w2.heap.size := fun b hb => by
    have := hM.row.lt b hb
    rw [hs0] at this
    exact this
  have hbe := hM.e.lt
  have hbl := hM.l.lt
  have g1 : Boxed w2 w.heap.size 39 (.slice none 0 0) := (hM.bel.block _ (by rw [hs0]; omega)).trans b1
  have g2 : Boxed w2 (w.heap.size + 1) 3 (.int .i64 0) := (hM.bel.block _ (by rw [hs0]; omega)).trans b2
  have qb : Below w.heap.size w w2 := q0.trans (hM.bel.mono (by rw [hs0]; omega))
  have hseq := HSEQ.out w2 Be Bl cv hM.base
  clear C hM b1 b2 q0
  go_wp2_with fail
  refine Rf.wp_rangeV (L := A) (w0 := w2) rfl (enters_of Tryz.func61 (by kernel_rfl) rfl) hseq (Below.refl _ _) (fun _ _ => rfl) (fun b hb => by
      rcases hb with rfl | rfl | hb
      · omega
      · omega
      · exact (hcb b hb).2) enc_put
    (fun pre W' => ∃ pv vs, Got w W' (w2.heap.size + 2) w.heap.size (w.heap.size + 1) ep pre pv vs)
    (fun _ _ _ => False) ?rest (fun _ _ _ _ _ hs _ _ => hs)
    ⟨.slice none 0 0, [], g1, g2, World.ownsRow_nil _ _ _ _, ⟨rfl, fun k v p hv => by simp at hv, fun j k u x _ hu => by simp at hu⟩, qb⟩ ?act ?assign ?body ?done (fun _ _ _ _ h _ => h.elim)
  case assign =>
    intro l' x v W2 K hK
    gi_wp2
    exact hK
  case rest =>
    rintro pre A' B row ⟨pv, vs, h⟩ hg hr
    exact ⟨pv, vs, h.rest (by omega) (by omega) (by omega) hg hr⟩
  case body =>
    rintro l' pre x v W0 W hpre hsz ⟨pv, vs, h⟩ hb hE
    obtain ⟨at_, p⟩ := x
    have hxs := HAs.out (at_, p) (hpre.subset (by simp))
    obtain ⟨bk, hbk⟩ : ∃ bk, (blocks ep p).length = bk := ⟨_, rfl⟩
    have hbk2 : bk ≤ 3 := by
      rw [← hbk, blocks_len]
      have := hxs.1
      simp only at this
      omega
    have hat : at_ + bk ≤ 8796093022208 := by
      have := hxs.2
      simp only [hbk] at this
      exact this
    have hpl : p.length ≤ 512 := hxs.1
    have cB : Hid (∀ wx, Calls Tryz.prog 40 #[.int .i64 (p.length : Int)] wx fun e w' => e = .returned (.int .i64 (bk : Int)) ∧ w' = wx) := fun wx => by
      have := blocks_p p.length wx (by omega)
      rw [← blocks_len ep p, hbk] at this
      exact this
    have hends : Hid ((at_ : Int) + (bk : Int) = (ends ep 0 (pre ++ [(at_, p)]) : Int)) := by
      show _ = _
      rw [ends_snoc, hbk]
      rfl
    have hvl : vs.length < 8796093022208 := by
      have h1 := h.rows.len
      rw [List.length_map] at h1
      have h2 := hpre.length_le
      have h3 := HAl.out
      simp at h2
      omega
    have k1 : Boxed W w.heap.size 39 pv := (hb.block _ h.b1.lt).trans h.b1
    have k2 : Boxed W (w.heap.size + 1) 3 (nu (ends ep 0 pre : Int)) := (hb.block _ h.b2.lt).trans h.b2
    have HOW := Hid.mk' (own_keptB h.own hb)
    have HG := Hid.mk' h
    have HE := Hid.mk' hE
    obtain ⟨pa, pc, rfl, _⟩ := Nm.own_shape h.own
    obtain ⟨va, vc, rfl, _⟩ := Nm.own_shape (show W.ownsRow _ _ _ _ _ _ from hE)
    obtain ⟨np, hnp⟩ : ∃ n, p.length = n := ⟨_, rfl⟩
    simp only [hnp] at HE cB hpl ⊢
    have hc1 := k1.cell
    have hone : Hid (∀ u ∈ [Value.slice va np vc], u.oneCell' = true) := by intro u hu; simp at hu; subst hu; rfl
    have hmx : Hid (vs.length + 1 ≤ maxLen) := by show _ ≤ _; unfold maxLen; omega
    have hby : Hid (((vs.length + 1) + (vs.length + 1) / 4 + 192) * 24 ≤ 281474976710656) := by show _ ≤ _; omega
    have hbs : Hid (w2.heap.size + 2 ≤ (W.alloc (.cells #[.slice va np vc] 46)).heap.size) := by
      have := hb.size
      show _ ≤ _
      simp
      omega
    have hatI : (at_ : Int) + (bk : Int) ≤ 8796093022208 := by omega
    have HBW := Hid.mk' hb
    clear h hE k1 k2 hxs hbk hnp hb hpre
    gi_wp2_with (gi_at_builtin; refine wpListIn_append_wide _ rfl _ _ 39 rfl (w2.heap.size + 2) 46 i1 (.slice none 0 0) 1 24 Tryz.underlying39 ji1 kz0 kz1 kz2 rfl (by decide) _ _ _ rfl (HOW.out.alloc _) ⟨W.heap.size, 0, none⟩ 1 1 [.slice va np vc] rfl rfl (cell_one_new _ _ _) hone.out hmx.out hby.out hbs.out ?_; intro v' w1 hown' hgrow _; obtain ⟨g', cap', rfl⟩ := ownsRow_succ hown'; obtain ⟨hG4, hL4, hv1, hv2⟩ := Got.step (X := fun b => b = Be ∨ b = Bl ∨ cv.ownBlock = some b) (lo := w2.heap.size) HG.out HBW.out HE.out (by omega) hsz (by omega) (by omega) (by omega) (by intro q; rcases q with q | q | q; (· omega); (· omega); (· have := (hcb _ q).1; omega)) (by intro q; rcases q with q | q | q; (· omega); (· omega); (· have := (hcb _ q).1; omega)) (by intro b q; rcases q with q | q | q; (· omega); (· omega); (· exact (hcb _ q).2)) (Nat.le_refl _) (Nat.le_succ _) hends.out hown' hgrow; have hc2 := hv1.cell; have hf2 := hv1.frozen; have hc3 := hv2.cell; have hf3 := hv2.frozen; have HG4 := Hid.mk' hG4; have HL4 := Hid.mk' hL4; clear hG4 hL4 hv1 hv2 hown' hgrow)
    refine ⟨trivial, CallsIn.inRound l' (callsIn_wide.2 (cB.out _)) |>.mono ?_⟩
    rintro e wx ⟨rfl, hwx⟩
    subst wx
    gi_wp2
    exact ⟨HL4.out, _, _, HG4.out⟩
  case done =>
    rintro W2 ⟨pv, vs, h⟩ hK
    have hc1 := h.b1.cell
    have hc2 := h.b2.cell
    have HG := Hid.mk' h
    obtain ⟨pa, pc, rfl, _⟩ := Nm.own_shape h.own
    clear h
    go_wp2_with fail
    go_quiet (fail)
    have hb9 : Below W2.heap.size W2 (W2.drewN nq) := below_dn (Below.refl _ _) nq
    have hK9 : (W2.drewN nq).heap[w2.heap.size]? = some (.deferred (some [])) := hK
    have HO9 := own_keptB HG.out.own hb9
    have HR9 := HG.out.rows.below hb9
    have HB9 := HG.out.bel.trans (hb9.mono HG.out.bel.size)
    generalize W2.drewN nq = W9 at *
    have HX := Hid.mk' (And.intro HO9 (And.intro HR9 HB9))
    clear HO9 HR9 HB9 hb9
    go_wp2
    refine ⟨by simp, .inl ⟨_, _, rfl, run_takeDeferred hK9, ?_⟩⟩
    refine ⟨_, results_tmp2 rfl _ _ _, ?_⟩
    obtain ⟨HO9, HR9, HB9⟩ := HX.out
    have HO10 := ownsRow_putObj HO9 (.deferred none) hK9 rfl
    have HR10 := HR9.kept (grownBy_putObj' W9 w2.heap.size (.deferred none)) (fun u hu => by
      obtain ⟨p, hp⟩ := HR9.at_ hu
      exact sep_box hp (by omega))
    refine ⟨_, vs, rfl, own_mono HO10 (by omega), HR10.mono (by omega), fun u hu => ?_, HB9.grown (grownBy_putObj' _ _ _) HB9.size (fun r e => by cases e; omega)⟩
    obtain ⟨p, hp⟩ := HR10.at_ hu
    exact own_sep HO10 hp (by decide)

theorem scan_p : ScanC := fun w ep v ls hep hR hn hT => scan_w w ep v ls hep hR (by omega) (fun t ht => by have := hT t ht; omega)
end Pr
end Rc
end Go.Proofs.YthdibodmnpcekaaGreatDoor
