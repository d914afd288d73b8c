/- SumCounts: two that count by turns, piece by piece. -/
import Derived.Test.YtahjkdcagkojoaaCut
namespace Go.Proofs.Ytahjkdcagkojoaa
set_option linter.ambiguousOpen false
open Go.RowKit
namespace Sm
set_option linter.unusedSimpArgs false
set_option linter.unusedVariables false

/-- Nothing, or a slice that lies somewhere. -/
def Nz (u : Value) : Prop := u = .slice none 0 0 ∨ ∃ ad m c, u = .slice (some ad) m c

/-- The value v reads, in w, as the list of rows L. -/
def RdBB (w : World) (v : Value) (L : List (List UInt8)) : Prop :=
  ∃ a cap, v = .slice a L.length cap ∧ L.length ≤ cap ∧ cap ≤ maxLen ∧ (0 < L.length → ∃ g o, a = some ⟨g, o, none⟩ ∧ g < w.heap.size ∧ ∀ j (hj : j < L.length), ∃ u, w.cell? ⟨g, o + j, none⟩ = some u ∧ RdB w u L[j] ∧ Nz u)

theorem append_row {w : World} {base n : Nat} {v : Value} {xs : List Value} (hown : w.ownsRow base 5 1 v n xs) {u : Value} {l : List UInt8} (hR : RdB w u l) (hz : Nz u) (hb : n + l.length ≤ 1048576) (hbase : base ≤ w.heap.size) (ty : TypeId) :
    ∃ v' w', (Builtin.append_ #[22, 22] ty #[v, u]).run Try.prog w = .ok v' w' ∧ w'.ownsRow base 5 1 v' (n + l.length) (xs ++ l.map by1) ∧ w.grownBy w' v.ownBlock ∧ (v'.ownBlock = v.ownBlock ∨ v'.ownBlock = some w.heap.size) := by
  obtain ⟨i0, hi, hz0, hz1, hz2⟩ := info_parts info_byte
  obtain ⟨a, cap, rfl, h1, h2, h3⟩ := hR
  rcases hz with hz | ⟨ad, m, c, hz⟩
  · obtain ⟨rfl, h0, rfl⟩ : a = none ∧ l.length = 0 ∧ cap = 0 := by simpa using hz
    obtain rfl := List.eq_nil_of_length_eq_zero h0
    refine ⟨v, w, ?_, by simpa using hown, ⟨rfl, rfl, rfl, Nat.le_refl _, fun _ _ _ => rfl⟩, .inl rfl⟩
    exact run_append_owned_none w base 22 ty 5 i0 1 Try.underlying22 hi v n xs hown
  · obtain ⟨rfl, h0, rfl⟩ : a = some ad ∧ l.length = m ∧ cap = c := by simpa using hz
    have hn : ∀ j u, (l.map by1)[j]? = some u → w.cell? (ad.add j) = some u := fun j u hj => by
      have hj' : j < l.length := by
        have := (List.getElem?_eq_some_iff.1 hj).1
        simpa using this
      obtain ⟨g, o, e1, _, e3⟩ := h3 (by omega)
      cases e1
      rw [List.getElem?_map, List.getElem?_eq_getElem hj'] at hj
      rw [Addr.add_mid, e3 j hj']
      exact hj
    obtain ⟨v', w', hr, g1, g2, _, g4⟩ := run_append_own_at (P := Try.prog) w base 22 ty 5 i0 (.int .u8 0) 1 1 Try.underlying22 hi hz0 hz1 hz2 rfl (by decide) v n xs hown ad l.length cap (l.map by1) (by simp) hn (fun u hu => by
      obtain ⟨b, _, rfl⟩ := List.mem_map.1 hu
      rfl) (by unfold maxLen; omega) (by omega) hbase
    exact ⟨v', w', hr, g1, g2, g4⟩

theorem wpList_append_row {w : World} {ops : Array Oper} {rest : List Oper} {o : Oper} {a : Act} {Q : Exit → Act → World → Prop} (hgd : o.guard = none) (s x : Operand)
    (ho : o.op = .call { callee := .builtin .append, args := #[s, x], argTypes := #[22, 22] })
    (base n : Nat) (v u : Value) (xs : List Value) (l : List UInt8) (hs : a.eval s = v) (hx : a.eval x = u) (hown : w.ownsRow base 5 1 v n xs) (hR : RdB w u l) (hz : Nz u) (hb : n + l.length ≤ 1048576) (hbase : base ≤ w.heap.size)
    (h : ∀ v' w', w'.ownsRow base 5 1 v' (n + l.length) (xs ++ l.map by1) → w.grownBy w' v.ownBlock → (v'.ownBlock = v.ownBlock ∨ v'.ownBlock = some w.heap.size) → wpList Try.prog ops Q rest (a.put o.dst v') w') : wpList Try.prog ops Q (o :: rest) a w := by
  refine wpList_plain hgd fun K hK => ?_
  obtain ⟨v', w', hr, h1, h2, h3⟩ := append_row hown hR hz hb hbase o.type
  unfold Oper.wp execOp
  simp only [ho, resolve, invoke, builtin, Sem.run_bind, Sem.run_pure, Result.andThen_ok, List.map_toArray, List.map_cons, List.map_nil, hs, hx, hr]
  exact hK _ _ (h v' w' h1 h2 h3)

theorem Sp.turn {u v v' : Value} {w : World} {base n : Nat} {e : TypeId} {size : Nat} {xs : List Value} (hs : Sp u v) (h : w.ownsRow base e size u n xs) (hv : v'.ownBlock = v.ownBlock ∨ v'.ownBlock = some w.heap.size) : Sp u v' := fun b hb hc => by
  rcases hv with hv | hv
  · exact hs b hb (by rw [← hv]; exact hc)
  · rw [hv] at hc
    have := (h.lt b hb).2
    have : w.heap.size = b := by simpa using hc
    omega

/-- Where the two stand: what each has counted, the two rows that the law has gathered. -/
structure St (w0 w : World) (av bv : Value) (lx ly la lb : List UInt8) : Prop where
  rx : Rg w w0.heap.size (reg 4294967295 lx)
  ry : Rg w (w0.heap.size + 1) (reg 4294967295 ly)
  oa : w.ownsRow (w0.heap.size + 2) 5 1 av la.length (la.map by1)
  ob : w.ownsRow (w0.heap.size + 2) 5 1 bv lb.length (lb.map by1)
  sp : Sp av bv
  be : Below w0.heap.size w0 w

theorem St.size {w0 w : World} {av bv : Value} {lx ly la lb : List UInt8} (h : St w0 w av bv lx ly la lb) : w0.heap.size + 2 ≤ w.heap.size := h.ry.lt

theorem St.below {w0 w w' : World} {av bv : Value} {lx ly la lb : List UInt8} (h : St w0 w av bv lx ly la lb) (hb : Below w.heap.size w w') : St w0 w' av bv lx ly la lb :=
  ⟨h.rx.below hb h.rx.lt, h.ry.below hb h.ry.lt, own_keptB h.oa hb, own_keptB h.ob hb, h.sp, h.be.trans (hb.mono h.be.size)⟩

theorem Rg.only {w w' : World} {g k r : Nat} (h : Rg w k r) (ho : Only g w w') (hk : k ≠ g) : Rg w' k r := by
  show w'.heap[k]? = _
  rw [ho.block k h.lt hk]
  exact h

theorem own_only {w w' : World} {g base n : Nat} {e : TypeId} {size : Nat} {v : Value} {xs : List Value} (h : w.ownsRow base e size v n xs) (ho : Only g w w') (hg : v.ownBlock ≠ some g) : w'.ownsRow base e size v n xs := by
  refine ⟨h.1, ?_⟩
  rcases h.2 with hn | ⟨b, cap, cur, rfl, hbg, hgg, rest⟩
  · exact .inl hn
  · refine .inr ⟨b, cap, cur, rfl, hbg, ?_, rest⟩
    rw [ho.block b (Array.getElem?_eq_some_iff.1 hgg).1 (by simpa [Value.ownBlock] using hg)]
    exact hgg

theorem own_far {w : World} {base n g : Nat} {e : TypeId} {size : Nat} {v : Value} {xs : List Value} (h : w.ownsRow base e size v n xs) (hg : g < base) : v.ownBlock ≠ some g := fun e => by
  have := (h.lt g e).1
  omega

theorem own_near {w : World} {base n g : Nat} {e : TypeId} {size : Nat} {v : Value} {xs : List Value} (h : w.ownsRow base e size v n xs) (hg : w.heap.size ≤ g) : v.ownBlock ≠ some g := fun e => by
  have := (h.lt g e).2
  omega

theorem own_turn {w : World} {base n g : Nat} {e : TypeId} {size : Nat} {v v' : Value} {xs : List Value} (h : w.ownsRow base e size v n xs) (hv : v'.ownBlock = v.ownBlock ∨ v'.ownBlock = some w.heap.size) (hn : v.ownBlock ≠ some g) (hg : g < w.heap.size) : v'.ownBlock ≠ some g := fun e => by
  rcases hv with hv | hv
  · exact hn (by rw [← hv]; exact e)
  · rw [hv] at e
    have : w.heap.size = g := by simpa using e
    omega

theorem St.addx {w0 w w' : World} {av bv : Value} {lx ly la lb l : List UInt8} (h : St w0 w av bv lx ly la lb) (hr : Rg w' w0.heap.size (reg (reg 4294967295 lx) l)) (ho : Only w0.heap.size w w') : St w0 w' av bv (lx ++ l) ly la lb :=
  ⟨by rw [reg_append]; exact hr, h.ry.only ho (by omega), own_only h.oa ho (own_far h.oa (by omega)), own_only h.ob ho (own_far h.ob (by omega)), h.sp, h.be.trans (ho.below (Nat.le_refl _) h.be.size)⟩

theorem St.addy {w0 w w' : World} {av bv : Value} {lx ly la lb l : List UInt8} (h : St w0 w av bv lx ly la lb) (hr : Rg w' (w0.heap.size + 1) (reg (reg 4294967295 ly) l)) (ho : Only (w0.heap.size + 1) w w') : St w0 w' av bv lx (ly ++ l) la lb :=
  ⟨h.rx.only ho (by omega), by rw [reg_append]; exact hr, own_only h.oa ho (own_far h.oa (by omega)), own_only h.ob ho (own_far h.ob (by omega)), h.sp, h.be.trans (ho.below (Nat.le_succ _) h.be.size)⟩

theorem Rg.grown {w w' : World} {k r : Nat} {row : Option Nat} (h : Rg w k r) (hg : w.grownBy w' row) (hk : row ≠ some k) : Rg w' k r := by
  show w'.heap[k]? = _
  rw [hg.block k h.lt (fun e => hk e.symm)]
  exact h

theorem St.appa {w0 w w' : World} {av bv v' : Value} {lx ly la lb l : List UInt8} (h : St w0 w av bv lx ly la lb) (ho : w'.ownsRow (w0.heap.size + 2) 5 1 v' (la.length + l.length) (la.map by1 ++ l.map by1)) (hg : w.grownBy w' av.ownBlock) (hv : v'.ownBlock = av.ownBlock ∨ v'.ownBlock = some w.heap.size) : St w0 w' v' bv lx ly (la ++ l) lb :=
  ⟨h.rx.grown hg (own_far h.oa (by omega)), h.ry.grown hg (own_far h.oa (by omega)), by rw [List.length_append, List.map_append]; exact ho, (Sp.symm h.sp).kept h.ob hg, ((Sp.symm h.sp).turn h.ob hv).symm, Below.grown h.be hg h.be.size (fun k hk => by have := (h.oa.lt k hk).1; omega)⟩

theorem St.appb {w0 w w' : World} {av bv v' : Value} {lx ly la lb l : List UInt8} (h : St w0 w av bv lx ly la lb) (ho : w'.ownsRow (w0.heap.size + 2) 5 1 v' (lb.length + l.length) (lb.map by1 ++ l.map by1)) (hg : w.grownBy w' bv.ownBlock) (hv : v'.ownBlock = bv.ownBlock ∨ v'.ownBlock = some w.heap.size) : St w0 w' av v' lx ly la (lb ++ l) :=
  ⟨h.rx.grown hg (own_far h.ob (by omega)), h.ry.grown hg (own_far h.ob (by omega)), h.sp.kept h.oa hg, by rw [List.length_append, List.map_append]; exact ho, h.sp.turn h.oa hv, Below.grown h.be hg h.be.size (fun k hk => by have := (h.ob.lt k hk).1; omega)⟩

/-- A row that lies apart from all of these. -/
def Off (w0 : World) (av bv : Value) (g : Nat) : Prop := w0.heap.size + 2 ≤ g ∧ av.ownBlock ≠ some g ∧ bv.ownBlock ≠ some g

theorem St.only {w0 w w' : World} {av bv : Value} {lx ly la lb : List UInt8} {g : Nat} (h : St w0 w av bv lx ly la lb) (ho : Only g w w') (hf : Off w0 av bv g) : St w0 w' av bv lx ly la lb :=
  ⟨h.rx.only ho (by have := hf.1; omega), h.ry.only ho (by have := hf.1; omega), own_only h.oa ho hf.2.1, own_only h.ob ho hf.2.2, h.sp, h.be.trans (ho.below (by have := hf.1; omega) h.be.size)⟩

theorem Only.setAt {g : Nat} {w w' : World} (h : Only g w w') (k : Nat) (v : Value) : Only g w (w'.setCell ⟨g, k, none⟩ v) :=
  ⟨h.os, h.tape, h.output, by simpa [World.setCell] using h.size, fun j hj hg => (heap_setCell_other w' ⟨g, k, none⟩ j v hg).trans (h.block j hj hg)⟩

theorem slice_ne {gp g len cap : Nat} (h : gp ≠ g) : (Value.slice (some ⟨gp, 0, none⟩) len cap).ownBlock ≠ some g := by
  simpa [Value.ownBlock] using h

theorem add_one (x : UInt8) : ((x + 1).toNat : Int) = ((x.toNat : Int) + 1) % 256 := by
  rw [UInt8.toNat_add]
  show ((((x.toNat + 1) % 2 ^ 8 : Nat)) : Int) = _
  omega

theorem flat_take (L : List (List UInt8)) (k : Nat) (h : k < L.length) : (L.take (k + 1)).flatten.length = (L.take k).flatten.length + L[k].length := by
  rw [List.take_succ_eq_append_getElem h, List.flatten_append, List.length_append]
  simp

theorem flat_le (L : List (List UInt8)) (k : Nat) : (L.take k).flatten.length ≤ L.flatten.length := by
  have : L.flatten.length = (L.take k).flatten.length + (L.drop k).flatten.length := by
    rw [← List.length_append, ← List.flatten_append, List.take_append_drop]
  omega

set_option maxRecDepth 100000 in
set_option maxHeartbeats 8000000 in
theorem sumCounts_walk (v : Value) (L : List (List UInt8)) (w : World) (hR : RdBB w v L) (hL : L.flatten.length ≤ 1048576) :
    Calls Try.prog 4 #[v] w fun e w' => e = .returned (.bool true) ∧ Below w.heap.size w w' := by
  obtain ⟨i0, hi, hz0, hz1, hz2⟩ := info_parts info_byte
  obtain ⟨a, cap, rfl, h1, h2, hc⟩ := hR
  unfold maxLen at h2
  have HC := Hid.mk' hc
  clear hc
  have c1 := new_any w
  have hr1 : Rg (w.alloc (.cells #[u4 4294967295] 34)) w.heap.size 4294967295 := heap_alloc_new w _
  have hb1 : Below w.heap.size w (w.alloc (.cells #[u4 4294967295] 34)) := (Below.refl _ _).alloc (Nat.le_refl _) _
  have hz1' : (w.alloc (.cells #[u4 4294967295] 34)).heap.size = w.heap.size + 1 := by simp
  generalize w.alloc (.cells #[u4 4294967295] 34) = w1 at *
  have c2 := new_any w1
  have hr2 : Rg (w1.alloc (.cells #[u4 4294967295] 34)) w1.heap.size 4294967295 := heap_alloc_new w1 _
  have hr12 : Rg (w1.alloc (.cells #[u4 4294967295] 34)) w.heap.size 4294967295 := hr1.below ((Below.refl w1.heap.size w1).alloc (Nat.le_refl _) _) (by omega)
  have hb2 : Below w.heap.size w (w1.alloc (.cells #[u4 4294967295] 34)) := hb1.alloc hb1.size _
  generalize w1.alloc (.cells #[u4 4294967295] 34) = w2 at *
  rw [hz1'] at c2 hr2
  have hst0 : St w w2 (.slice none 0 0) (.slice none 0 0) [] [] [] [] := ⟨hr12, hr2, World.ownsRow_nil _ _ _ _, World.ownsRow_nil _ _ _ _, Sp.nil _, hb2⟩
  have c3 := value_any w.heap.size 4294967295 w2 (by decide) hr12
  have c4 := value_any (w.heap.size + 1) 4294967295 w2 (by decide) hr2
  go_enter Try.func4, Try.ntmps4
  go_wp2_with fail
  refine c1.mono ?_
  rintro e wq ⟨rfl, hq⟩
  subst wq
  go_wp2_with fail
  refine c2.mono ?_
  rintro e wq ⟨rfl, hq⟩
  subst wq
  go_wp2_with fail
  refine c3.mono ?_
  rintro e wq ⟨rfl, hq⟩
  subst wq
  go_wp2_with fail
  refine c4.mono ?_
  rintro e wq ⟨rfl, hq⟩
  subst wq
  clear c1 c2 c3 c4 hr1 hb1 hr2 hr12 hb2 hz1'
  go_wp2
  go_loopw [5, 6, 7] (fun av bv iv wr => ∃ (k : Nat) (la lb : List UInt8), k ≤ L.length ∧ iv = .int .i64 k ∧ St w wr av bv la lb la lb ∧ Hid (la.length + lb.length ≤ (L.take k).flatten.length)) (fun _ _ iv _ => L.length - (intOf iv).toNat)
  case atStart => exact ⟨0, [], [], Nat.zero_le _, rfl, hst0, by show _ ≤ _; simp⟩
  case round =>
    clear hst0
    rename World => wO
    obtain ⟨k, la, lb, hk, rfl, hst, hlen⟩ := hrel
    by_cases hp : k < L.length
    · obtain ⟨g, o, rfl, hg, hcj⟩ := HC.out (by omega)
      obtain ⟨u, hu, hRu, hNu⟩ := hcj k hp
      have hfl := Hid.mk' (flat_take L k hp)
      have hfe := Hid.mk' (flat_le L (k + 1))
      clear hcj
      generalize L[k] = l at *
      have hll : l.length ≤ 1048576 := by have := hfl.out; have := hfe.out; omega
      have hlab : la.length + lb.length + l.length ≤ 1048576 := by have := hfl.out; have := hfe.out; have := hlen.out; omega
      have hcu := hbel_cell hst.be hg hu
      have c5 := lentB_any u l wO (hRu.below hst.be) (by omega)
      obtain ⟨ua, uc, rfl, hu1, hu2⟩ := hRu.val
      unfold maxLen at hu2
      have HRu := Hid.mk' hRu
      have HNu := Hid.mk' hNu
      have hws := hst.size
      clear hRu hNu
      go_wp2_with fail
      refine c5.mono ?_
      rintro e w5 ⟨gp, cp, rfl, hcp, hcpm, hop, hb5⟩
      have hst5 := hst.below hb5
      have hgp : wO.heap.size ≤ gp := (hop.lt gp rfl).1
      have hgl : gp < w5.heap.size := (hop.lt gp rfl).2
      have na := own_near hst.oa hgp
      have nb := own_near hst.ob hgp
      have hrd5 := rdB_lent hop hcp hcpm hgl
      have hcpm' := hcpm
      unfold maxLen at hcpm
      have HOP := Hid.mk' hop
      have HRD := Hid.mk' hrd5
      clear hop hrd5 c5
      rcases Nat.mod_two_eq_zero_or_one k with hk2 | hk2
      · skip
        have hpar : ((k : Int).tmod 2 == 0) = true := by
          have : (k : Int).tmod 2 = ((k % 2 : Nat) : Int) := rfl
          rw [this, hk2]; rfl
        have c6 := add_any w.heap.size (reg 4294967295 la) _ l w5 (reg_lt _ _ (by decide)) hst5.rx HRD.out (fun _ => slice_ne (by omega))
        go_wp2_with fail
        refine c6.mono ?_
        rintro e w6 ⟨rfl, hr6, ho6⟩
        have hst6 := hst5.addx hr6 ho6
        have hop6 := own_only HOP.out ho6 (slice_ne (by omega))
        have hcu6 := hbel_cell hst6.be hg hu
        have hs6 := hst6.size
        have hl6 : gp < w6.heap.size := Nat.lt_of_lt_of_le hgl ho6.size
        clear c6 hr6 ho6 HOP HRD hcu
        go_wp2_with (first | (at_builtin; refine wpList_append_row rfl _ _ rfl (w.heap.size + 2) la.length u5 _ (la.map by1) l rfl rfl hst6.oa (HRu.out.below hst6.be) HNu.out (by omega) hs6 ?_; intro v7 w7 ho7 hg7 hv7; have hst7 := hst6.appa ho7 hg7 hv7; have hcu7 := hbel_cell hst7.be hg hu) | fail)
        have hs7 := hst7.size
        have hoff : Off w v7 u6 gp := ⟨by omega, own_turn hst6.oa hv7 na hl6, nb⟩
        have hop7 := World.ownsRow.kept hop6 hg7 (.inr (fun e => na e.symm))
        have hl7 : gp < w7.heap.size := Nat.lt_of_lt_of_le hl6 hg7.size
        have c8 := keptB_any (.slice ua l.length uc) l gp cp wO.heap.size w7 (HRu.out.below hst7.be) (by omega) hcp hcpm' hop7 hl7
        have HOP := Hid.mk' hop7
        clear hop7 hop6 ho7 hg7 hv7 hst6 hst5 hst hcu6
        go_wp2_with fail
        refine c8.mono ?_
        rintro e w8 ⟨rfl, hb8⟩
        have hst8 := hst7.below hb8
        have hop8 := own_keptB HOP.out hb8
        clear HOP c8 hcu7 hst7
        go_wp2
        go_loopw [9] (fun iv wr => ∃ (j : Nat) (lp : List UInt8), j ≤ l.length ∧ iv = .int .i64 j ∧ Hid (lp.length = l.length + 16) ∧ wr.ownsRow wO.heap.size 5 1 (.slice (some ⟨gp, 0, none⟩) (l.length + 16) cp) (l.length + 16) (lp.map by1) ∧ Only gp w8 wr) (fun iv _ => l.length - (intOf iv).toNat)
        case atStart => exact ⟨0, l ++ mksB 16, Nat.zero_le _, rfl, by show _ = _; simp [mksB_len], hop8, Only.refl _ _⟩
        case round =>
          clear hop8
          obtain ⟨j, lp, hj, rfl, hlp, hop, hon⟩ := hrel
          by_cases hpj : j < l.length
          · have hjp : j < lp.length := by have := hlp.out; omega
            have hcell : wr.cell? ⟨gp, j, none⟩ = some (by1 lp[j]) := by
              have := row_atB hop j (by omega) (by simpa using hjp)
              rw [this, List.getElem_map]
            have hfz : wr.frozen? ⟨gp, j, none⟩ = false := own_free hop _
            have ho2 := Hid.mk' (own_set hop j (by1 (lp[j] + 1)))
            have hl2 : Hid ((lp.set j (lp[j] + 1)).length = l.length + 16) := by
              show _ = _
              rw [List.length_set]; exact hlp.out
            have hmap := Hid.mk' (List.map_set (f := by1) (l := lp) (i := j) (a := lp[j] + 1))
            have hon2 := Hid.mk' (hon.setAt j (by1 (lp[j] + 1)))
            have ex := Hid.mk' (add_one lp[j])
            have hbx := byte_lt lp[j]
            clear hop hon
            generalize lp[j] = x at *
            go_wp2
            rw [← ex.out]
            generalize (wr.setCell ⟨gp, j, none⟩ (.int .u8 ((x + 1).toNat : Int))) = wS at *
            go_wp2
            go_roundw
            case rel => exact ⟨j + 1, lp.set j (x + 1), by omega, by go_num, hl2, (by rw [hmap.out]; exact ho2.out), hon2.out⟩
            case measure => simp [intOf]; omega
          · have hst9 := hst8.only hon hoff
            have cx : Calls Try.prog 14 #[.pointer (some ⟨w.heap.size, 0, none⟩)] wr fun e w' => e = .returned (u4 (crc (la ++ l))) ∧ w' = wr := value_any w.heap.size _ wr (reg_lt _ _ (by decide)) hst9.rx
            have cy : Calls Try.prog 14 #[.pointer (some ⟨w.heap.size + 1, 0, none⟩)] wr fun e w' => e = .returned (u4 (crc (lb))) ∧ w' = wr := value_any (w.heap.size + 1) _ wr (reg_lt _ _ (by decide)) hst9.ry
            have cA := refof_any v7 (la ++ l) wr (own_rd hst9.oa)
            have cB := refof_any u6 (lb) wr (own_rd hst9.ob)
            have hlen2 : Hid ((la ++ l).length + (lb).length ≤ (L.take (k + 1)).flatten.length) := by
              show _ ≤ _
              have := hfl.out
              have := hlen.out
              rw [List.length_append]
              omega
            have HST := Hid.mk' hst9
            clear hst9 hst8 hop hon hfl hlen hfe
            generalize crc (la ++ l) = s1 at *
            generalize crc (lb) = s2 at *
            go_wp2_with fail
            refine cx.mono ?_
            rintro e wq ⟨rfl, hq⟩
            subst wq
            go_wp2_with fail
            refine cA.mono ?_
            rintro e wq ⟨rfl, hq⟩
            subst wq
            go_wp2_with fail
            refine cy.mono ?_
            rintro e wq ⟨rfl, hq⟩
            subst wq
            go_wp2_with fail
            refine cB.mono ?_
            rintro e wq ⟨rfl, hq⟩
            subst wq
            go_wp2_with fail
            refine cx.mono ?_
            rintro e wq ⟨rfl, hq⟩
            subst wq
            go_wp2_with fail
            refine cA.mono ?_
            rintro e wq ⟨rfl, hq⟩
            subst wq
            go_wp2
            go_roundw
            case rel => exact ⟨k + 1, la ++ l, lb, by omega, by go_num, HST.out, hlen2⟩
            case measure => simp [intOf]; omega
      · skip
        have hpar : ((k : Int).tmod 2 == 0) = false := by
          have : (k : Int).tmod 2 = ((k % 2 : Nat) : Int) := rfl
          rw [this, hk2]; rfl
        have c6 := add_any (w.heap.size + 1) (reg 4294967295 lb) _ l w5 (reg_lt _ _ (by decide)) hst5.ry HRD.out (fun _ => slice_ne (by omega))
        go_wp2_with fail
        refine c6.mono ?_
        rintro e w6 ⟨rfl, hr6, ho6⟩
        have hst6 := hst5.addy hr6 ho6
        have hop6 := own_only HOP.out ho6 (slice_ne (by omega))
        have hcu6 := hbel_cell hst6.be hg hu
        have hs6 := hst6.size
        have hl6 : gp < w6.heap.size := Nat.lt_of_lt_of_le hgl ho6.size
        clear c6 hr6 ho6 HOP HRD hcu
        go_wp2_with (first | (at_builtin; refine wpList_append_row rfl _ _ rfl (w.heap.size + 2) lb.length u6 _ (lb.map by1) l rfl rfl hst6.ob (HRu.out.below hst6.be) HNu.out (by omega) hs6 ?_; intro v7 w7 ho7 hg7 hv7; have hst7 := hst6.appb ho7 hg7 hv7; have hcu7 := hbel_cell hst7.be hg hu) | fail)
        have hs7 := hst7.size
        have hoff : Off w u5 v7 gp := ⟨by omega, na, own_turn hst6.ob hv7 nb hl6⟩
        have hop7 := World.ownsRow.kept hop6 hg7 (.inr (fun e => nb e.symm))
        have hl7 : gp < w7.heap.size := Nat.lt_of_lt_of_le hl6 hg7.size
        have c8 := keptB_any (.slice ua l.length uc) l gp cp wO.heap.size w7 (HRu.out.below hst7.be) (by omega) hcp hcpm' hop7 hl7
        have HOP := Hid.mk' hop7
        clear hop7 hop6 ho7 hg7 hv7 hst6 hst5 hst hcu6
        go_wp2_with fail
        refine c8.mono ?_
        rintro e w8 ⟨rfl, hb8⟩
        have hst8 := hst7.below hb8
        have hop8 := own_keptB HOP.out hb8
        clear HOP c8 hcu7 hst7
        go_wp2
        go_loopw [9] (fun iv wr => ∃ (j : Nat) (lp : List UInt8), j ≤ l.length ∧ iv = .int .i64 j ∧ Hid (lp.length = l.length + 16) ∧ wr.ownsRow wO.heap.size 5 1 (.slice (some ⟨gp, 0, none⟩) (l.length + 16) cp) (l.length + 16) (lp.map by1) ∧ Only gp w8 wr) (fun iv _ => l.length - (intOf iv).toNat)
        case atStart => exact ⟨0, l ++ mksB 16, Nat.zero_le _, rfl, by show _ = _; simp [mksB_len], hop8, Only.refl _ _⟩
        case round =>
          clear hop8
          obtain ⟨j, lp, hj, rfl, hlp, hop, hon⟩ := hrel
          by_cases hpj : j < l.length
          · have hjp : j < lp.length := by have := hlp.out; omega
            have hcell : wr.cell? ⟨gp, j, none⟩ = some (by1 lp[j]) := by
              have := row_atB hop j (by omega) (by simpa using hjp)
              rw [this, List.getElem_map]
            have hfz : wr.frozen? ⟨gp, j, none⟩ = false := own_free hop _
            have ho2 := Hid.mk' (own_set hop j (by1 (lp[j] + 1)))
            have hl2 : Hid ((lp.set j (lp[j] + 1)).length = l.length + 16) := by
              show _ = _
              rw [List.length_set]; exact hlp.out
            have hmap := Hid.mk' (List.map_set (f := by1) (l := lp) (i := j) (a := lp[j] + 1))
            have hon2 := Hid.mk' (hon.setAt j (by1 (lp[j] + 1)))
            have ex := Hid.mk' (add_one lp[j])
            have hbx := byte_lt lp[j]
            clear hop hon
            generalize lp[j] = x at *
            go_wp2
            rw [← ex.out]
            generalize (wr.setCell ⟨gp, j, none⟩ (.int .u8 ((x + 1).toNat : Int))) = wS at *
            go_wp2
            go_roundw
            case rel => exact ⟨j + 1, lp.set j (x + 1), by omega, by go_num, hl2, (by rw [hmap.out]; exact ho2.out), hon2.out⟩
            case measure => simp [intOf]; omega
          · have hst9 := hst8.only hon hoff
            have cx : Calls Try.prog 14 #[.pointer (some ⟨w.heap.size, 0, none⟩)] wr fun e w' => e = .returned (u4 (crc (la))) ∧ w' = wr := value_any w.heap.size _ wr (reg_lt _ _ (by decide)) hst9.rx
            have cy : Calls Try.prog 14 #[.pointer (some ⟨w.heap.size + 1, 0, none⟩)] wr fun e w' => e = .returned (u4 (crc (lb ++ l))) ∧ w' = wr := value_any (w.heap.size + 1) _ wr (reg_lt _ _ (by decide)) hst9.ry
            have cA := refof_any u5 (la) wr (own_rd hst9.oa)
            have cB := refof_any v7 (lb ++ l) wr (own_rd hst9.ob)
            have hlen2 : Hid ((la).length + (lb ++ l).length ≤ (L.take (k + 1)).flatten.length) := by
              show _ ≤ _
              have := hfl.out
              have := hlen.out
              rw [List.length_append]
              omega
            have HST := Hid.mk' hst9
            clear hst9 hst8 hop hon hfl hlen hfe
            generalize crc (la) = s1 at *
            generalize crc (lb ++ l) = s2 at *
            go_wp2_with fail
            refine cx.mono ?_
            rintro e wq ⟨rfl, hq⟩
            subst wq
            go_wp2_with fail
            refine cA.mono ?_
            rintro e wq ⟨rfl, hq⟩
            subst wq
            go_wp2_with fail
            refine cy.mono ?_
            rintro e wq ⟨rfl, hq⟩
            subst wq
            go_wp2_with fail
            refine cB.mono ?_
            rintro e wq ⟨rfl, hq⟩
            subst wq
            go_wp2_with fail
            refine cx.mono ?_
            rintro e wq ⟨rfl, hq⟩
            subst wq
            go_wp2_with fail
            refine cA.mono ?_
            rintro e wq ⟨rfl, hq⟩
            subst wq
            go_wp2
            go_roundw
            case rel => exact ⟨k + 1, la, lb ++ l, by omega, by go_num, HST.out, hlen2⟩
            case measure => simp [intOf]; omega
    · go_wp2
      go_ret
      exact ⟨rfl, hst.be⟩
end Sm
end Go.Proofs.Ytahjkdcagkojoaa
