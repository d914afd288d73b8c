import Derived.Test.YtcleeidfiaafcaaGreatDoorTreKd
import Derived.Test.YtcleeidfiaafcaaGreatDoorRngU
import Derived.Test.YtcleeidfiaafcaaGreatDoorTreW
import Derived.WalkMore
/- The program's trees: a slot and all below it. -/
namespace Go.Proofs.YtcleeidfiaafcaaGreatDoor
set_option linter.ambiguousOpen false
open Go.RowKit
namespace Tr
open An Rg Ft Lv
set_option linter.unusedSimpArgs false
set_option linter.unusedVariables false

theorem append_int {w : World} {base n : Nat} {v : Value} {xs : List Value} (hown : w.ownsRow base 3 1 v n xs) {u : Value} {b2 m : Nat} {L : List Nat} (hu : w.ownsRow b2 3 1 u m (L.map nun)) (hb : n + m ≤ 1000000) (hbase : base ≤ w.heap.size) (ty : TypeId) :
    ∃ v' w', (Builtin.append_ #[50, 50] ty #[v, u]).run Tryz.prog w = .ok v' w' ∧ w'.ownsRow base 3 1 v' (n + m) (xs ++ L.map nun) ∧ w.grownBy w' v.ownBlock ∧ (v'.ownBlock = v.ownBlock ∨ v'.ownBlock = some w.heap.size) := by
  obtain ⟨i0, hi, hz0, hz1, hz2⟩ := info_parts info_int
  have hl : L.length = m := by have := hu.1; simpa using this
  rcases hu.2 with ⟨rfl, h0⟩ | ⟨g, cap, cur, rfl, _⟩
  · subst h0
    obtain rfl := List.eq_nil_of_length_eq_zero hl
    refine ⟨v, w, ?_, by simpa using hown, ⟨rfl, rfl, rfl, Nat.le_refl _, fun _ _ _ => rfl⟩, .inl rfl⟩
    exact run_append_owned_none w base 50 ty 3 i0 1 Tryz.underlying50 hi v n xs hown
  · have hn : ∀ j u, (L.map nun)[j]? = some u → w.cell? ((⟨g, 0, none⟩ : Addr).add j) = some u := hu.cells (g := g) rfl
    obtain ⟨v', w', hr, g1, g2, _, g4⟩ := run_append_own_at (P := Tryz.prog) w base 50 ty 3 i0 (.int .i64 0) 1 8 Tryz.underlying50 hi hz0 hz1 hz2 rfl (by decide) v n xs hown ⟨g, 0, none⟩ m cap (L.map nun) (by simp [hl]) hn (fun u hu => by
      obtain ⟨b, _, rfl⟩ := List.mem_map.1 hu
      rfl) (by unfold maxLen; omega) (by omega) hbase
    exact ⟨v', w', hr, g1, g2, g4⟩

theorem wpList_append_int {w : World} {ops : Array Oper} {rest : List Oper} {o : Oper} {a : Act} {Q : Exit → Act → World → Prop} (hgd : o.guard = none) (s x : Operand)
    (ho : o.op = .call { callee := .builtin .append, args := #[s, x], argTypes := #[50, 50] })
    (base n : Nat) (v u : Value) (xs : List Value) (b2 m : Nat) (L : List Nat) (hs : a.eval s = v) (hx : a.eval x = u) (hown : w.ownsRow base 3 1 v n xs) (hu : w.ownsRow b2 3 1 u m (L.map nun)) (hb : n + m ≤ 1000000) (hbase : base ≤ w.heap.size)
    (h : ∀ v' w', w'.ownsRow base 3 1 v' (n + m) (xs ++ L.map nun) → w.grownBy w' v.ownBlock → (v'.ownBlock = v.ownBlock ∨ v'.ownBlock = some w.heap.size) → wpList Tryz.prog ops Q rest (a.put o.dst v') w') : wpList Tryz.prog ops Q (o :: rest) a w := by
  refine wpList_plain hgd fun K hK => ?_
  obtain ⟨v', w', hr, h1, h2, h3⟩ := append_int hown hu hb hbase o.type
  unfold Oper.wp execOp
  simp only [ho, resolve, invoke, builtin, Sem.run_bind, Sem.run_pure, Result.andThen_ok, List.map_toArray, List.map_cons, List.map_nil, hs, hx, hr]
  exact hK _ _ (h v' w' h1 h2 h3)

/-- A list of one number, made anew. -/
theorem own_oneI (w : World) (x : Nat) : (w.alloc (.cells #[nun x] 3)).ownsRow w.heap.size 3 1 (.slice (some ⟨w.heap.size, 0, none⟩) 1 1) 1 ([x].map nun) :=
  ⟨rfl, .inr ⟨w.heap.size, 1, #[nun x], rfl, Nat.le_refl _, heap_alloc_new _ _, Nat.le_refl _, by unfold maxLen; omega, rfl, rfl⟩⟩

/-- What is found and what is ahead, as lists in memory. -/
structure Fnd (Rep : World → Nat → (Nat → Prop) → Arn → Prop) (w0 w : World) (S : List Slt) (all : List Nat) (fv av : Value) (nf na : Nat) (found ahead : List Nat) : Prop where
  am : Amid S all found ahead
  lf : found.length = nf
  la : ahead.length = na
  rf : w.ownsRow w0.heap.size 3 1 fv nf (found.map nun)
  ra : w.ownsRow w0.heap.size 3 1 av na (ahead.map nun)
  sep : Nm.Sep fv av
  bel : Below w0.heap.size w0 w

/-- How long a slice is. -/
def lenV : Value → Nat
  | .slice _ n _ => n
  | _ => 0

theorem sep_one {f f' a : Value} {n : Nat} (h : Nm.Sep f a) (hf : f'.ownBlock = f.ownBlock ∨ f'.ownBlock = some n) (ha : ∀ b, a.ownBlock = some b → b < n) : Nm.Sep f' a := fun b h1 h2 => by
  rcases hf with e | e
  · exact h b (e ▸ h1) h2
  · rw [e] at h1
    have := Option.some.inj h1
    have := ha b h2
    omega

/-- A found one more: what is ahead stays. -/
theorem Fnd.found1 {Rep : World → Nat → (Nat → Prop) → Arn → Prop} {w0 w w' : World} {fv fv' av : Value} {nf na : Nat} {found r : List Nat} {x : Nat} (hrf : w.ownsRow w0.heap.size 3 1 fv nf (found.map nun)) (hra : w.ownsRow w0.heap.size 3 1 av na (r.map nun)) (hsep : Nm.Sep fv av) (hbel : Below w0.heap.size w0 w)
    (ho : w'.ownsRow w0.heap.size 3 1 fv' (nf + 1) (found.map nun ++ [x].map nun)) (hg : (w.alloc (.cells #[nun x] 3)).grownBy w' fv.ownBlock) (hp : fv'.ownBlock = fv.ownBlock ∨ fv'.ownBlock = some (w.alloc (.cells #[nun x] 3)).heap.size) :
    w'.ownsRow w0.heap.size 3 1 fv' (nf + 1) ((found ++ [x]).map nun) ∧ w'.ownsRow w0.heap.size 3 1 av na (r.map nun) ∧ Nm.Sep fv' av ∧ Below w0.heap.size w0 w' ∧ (∀ b, fv'.ownBlock = some b → b < w'.heap.size) ∧ (∀ b, av.ownBlock = some b → b < w'.heap.size) := by
  have hs : (w.alloc (.cells #[nun x] 3)).heap.size = w.heap.size + 1 := by simp
  have hra' := hra.alloc (.cells #[nun x] 3)
  have hb := hbel.alloc (o := .cells #[nun x] 3) hbel.size
  have h2 : w'.ownsRow w0.heap.size 3 1 av na (r.map nun) := hra'.kept hg (by
    cases hav : av.ownBlock with
    | none => exact .inl rfl
    | some b => exact .inr (fun e => hsep b e.symm hav))
  refine ⟨by rw [List.map_append]; exact ho, h2, sep_one hsep hp (fun b e => by have := (hra.lt b e).2; omega), hb.grown hg hb.size (fun k hk => (hrf.lt k hk).1), fun b e => (ho.lt b e).2, fun b e => (h2.lt b e).2⟩

/-- Its children go ahead. -/
theorem Fnd.ahead1 {Rep : World → Nat → (Nat → Prop) → Arn → Prop} {w0 w w' : World} {S : List Slt} {all : List Nat} {fv av av' : Value} {nf m n5 : Nat} {found r : List Nat} {x : Nat} (hAm : Amid S all (found ++ [x]) (r ++ (kidsL S x).reverse)) (hlf : found.length = nf) (hrl : r.length = m) (hn5 : n5 = (kidsL S x).length)
    (hrf : w.ownsRow w0.heap.size 3 1 fv (nf + 1) ((found ++ [x]).map nun)) (hra : w.ownsRow w0.heap.size 3 1 av m (r.map nun)) (hsep : Nm.Sep fv av) (hbel : Below w0.heap.size w0 w)
    (ho : w'.ownsRow w0.heap.size 3 1 av' (m + n5) (r.map nun ++ (kidsL S x).reverse.map nun)) (hg : w.grownBy w' av.ownBlock) (hp : av'.ownBlock = av.ownBlock ∨ av'.ownBlock = some w.heap.size) :
    Fnd Rep w0 w' S all fv av' (nf + 1) (m + n5) (found ++ [x]) (r ++ (kidsL S x).reverse) := by
  refine ⟨hAm, by simp [hlf], by simp [hrl, hn5], ?_, by rw [List.map_append]; exact ho, (sep_one hsep.symm hp (fun b e => (hrf.lt b e).2)).symm, hbel.grown hg hbel.size (fun k hk => (hra.lt k hk).1)⟩
  refine hrf.kept hg ?_
  cases hfv : fv.ownBlock with
  | none => exact .inl rfl
  | some b => exact .inr (fun e => hsep b hfv e.symm)

section
variable {Rep : World → Nat → (Nat → Prop) → Arn → Prop}

set_option maxRecDepth 100000 in
set_option maxHeartbeats 4000000 in
theorem found_p (C : ArC Rep) (w : World) (p q : Nat) (F : Nat → Prop) (A : Arn) (l i : Int) (h : RepT Rep w p q F A l) (hg : An.Good A) :
    Calls Tryz.prog 36 #[ptr q, nu i] w fun e w' => ∃ v, e = .returned v ∧ w'.ownsRow w.heap.size 3 1 v (undL A.sl i).length ((undL A.sl i).map nun) ∧ Below w.heap.size w w' := by
  have cs := Hid.mk' (slot_p C w p q F A l i h hg)
  by_cases ht : there i
  · rw [decide_eq_true ht] at cs
    generalize A.at i = x at *
    obtain ⟨k, rfl⟩ : ∃ k : Nat, i = (k : Int) := ⟨i.toNat, by omega⟩
    have hk : k < 32 := by omega
    have hA0 := Amid.start A.sl k hk
    obtain ⟨all, hall⟩ : ∃ all, undL A.sl k = all := ⟨_, rfl⟩
    rw [hall] at hA0 ⊢
    have cB : Hid (∀ wx (y : Nat), Below w.heap.size w wx → Calls Tryz.prog 63 #[ptr q, nun y] wx fun e w' => ∃ a n c, e = .returned (.slice a n c) ∧ Hid (n = (kidsL A.sl y).length ∧ w'.ownsRow wx.heap.size 3 1 (.slice a n c) n ((kidsL A.sl y).reverse.map nun) ∧ Below wx.heap.size wx w')) := fun wx y hb => by
      refine (kidsBack_p C wx p q F A l y (h.below C.keep hb) hg).mono ?_
      rintro e w' ⟨v, rfl, ho, hb'⟩
      obtain ⟨a, c, rfl, _⟩ := Nm.own_shape ho
      exact ⟨a, _, c, rfl, rfl, ho, hb'⟩
    have HA0 := Hid.mk' hA0
    clear h hg C ht hall hA0
    go_enter Tryz.func36, Tryz.ntmps36
    go_wp2
    go_step3
    go_wp2_with fail
    refine cs.out.mono ?_
    rintro e w1 ⟨rfl, hb1⟩
    have HB1 := Hid.mk' hb1
    have HZ := Hid.mk' (lone_zero w1)
    have HBZ : Hid (Below w.heap.size w (w1.alloc (.cells sltZ 40))) := HB1.out.alloc HB1.out.size _
    clear hb1 cs
    go_upto_region 5 with (first | (refine wpList_store_lone rfl _ _ rfl w1.heap.size rfl x rfl slt0 HZ.out ?_; intro w2 hl2 hg2 hs2; have HB2 : Hid (Below w.heap.size w w2) := (HBZ.out.grown hg2 HBZ.out.size (fun r e => by cases e; exact HB1.out.size)); clear hl2 hg2 hs2) | fail)
    clear HBZ HZ HB1
    have HF0 : Hid (Fnd Rep w (w2.alloc (.cells #[nun k] 3)) A.sl all (.slice none 0 0) (.slice (some ⟨w2.heap.size, 0, none⟩) 1 1) 0 1 [] [k]) := ⟨HA0.out, rfl, rfl, World.ownsRow_nil _ _ _ _, own_monoA (own_oneI w2 k) HB2.out.size, Nm.Sep.nil _, HB2.out.alloc HB2.out.size _⟩
    go_wp2
    go_step3
    go_wp2
    generalize w2.alloc (.cells #[nun k] 3) = w3 at *
    clear HB2 HA0
    go_loopw [7, 8] (fun fv av wr => ∃ (af : Option Addr) (nf cf : Nat) (aa : Option Addr) (na ca : Nat), fv = .slice af nf cf ∧ av = .slice aa na ca ∧ Hid (∃ found ahead, Fnd Rep w wr A.sl all fv av nf na found ahead)) (fun fv av _ => (32 - lenV fv) * 34 + lenV av)
    case atStart => exact ⟨none, 0, 0, some ⟨w2.heap.size, 0, none⟩, 1, 1, rfl, rfl, _, _, HF0.out⟩
    case round =>
      obtain ⟨af, nf, cf, aa, na, ca, rfl, rfl, HR⟩ := hrel
      obtain ⟨found, ahead, hF⟩ := HR.out
      clear HR HF0
      obtain ⟨af', cf', e1, hfc, hfm, hfa⟩ := Nm.own_shape hF.rf
      obtain ⟨rfl, rfl⟩ : af = af' ∧ cf = cf' := by simpa using e1
      obtain ⟨aa', ca', e2, hac, ham, haa⟩ := Nm.own_shape hF.ra
      obtain ⟨rfl, rfl⟩ : aa = aa' ∧ ca = ca' := by simpa using e2
      unfold maxLen at hfm ham
      have hlf : nf ≤ 32 := by rw [← hF.lf]; exact hF.am.len
      have hla : na ≤ 1025 := by have := hF.am.few; rw [hF.la, hF.lf] at this; omega
      by_cases hna : na = 0
      · subst hna
        have HEN : Hid (found = all) := by
          have := hF.am
          rw [List.eq_nil_of_length_eq_zero hF.la] at this
          exact this.done
        have HRF := Hid.mk' hF.rf
        have HLF := Hid.mk' hF.lf
        have HBL := Hid.mk' hF.bel
        clear hF hfa haa e1 e2 cB hfc hfm hac ham
        go_wp2
        try rw [Exit.noGoto_ret]
        go_ret
        refine ⟨_, rfl, ?_, HBL.out⟩
        rw [← HEN.out, HLF.out]
        exact HRF.out
      · obtain ⟨m, rfl⟩ : ∃ m, na = m + 1 := ⟨na - 1, by omega⟩
        obtain ⟨r, x9, hrx⟩ : ∃ r x9, ahead = r ++ [x9] := by
          rcases List.eq_nil_or_concat ahead with e | ⟨r, x9, e⟩
          · have := hF.la
            rw [e] at this
            simp at this
          · exact ⟨r, x9, by rw [e, List.concat_eq_append]⟩
        subst hrx
        have hrl : r.length = m := by have := hF.la; simp at this; omega
        obtain ⟨ab, rfl⟩ := haa (by omega)
        have hcx : wr.cell? ⟨ab, m, none⟩ = some (nun x9) := by
          have := hF.ra.cellAt (g := ab) (cap := ca) m (by omega)
          rw [this, List.map_append, List.getElem?_append_right (by simp; omega)]
          simp [hrl]
        have hra2 : wr.ownsRow w.heap.size 3 1 (.slice (some ⟨ab, 0, none⟩) m ca) m (r.map nun) := by
          have := own_less (m := m) hF.ra (by omega) (by simp)
          rwa [List.take_append_of_le_length (by omega), List.take_of_length_le (by omega)] at this
        have hsp2 : Nm.Sep (.slice af nf cf) (.slice (some ⟨ab, 0, none⟩) m ca) := hF.sep
        have hsl := slice_toI (some ⟨ab, 0, none⟩) (m + 1) ca m (by omega)
        have HOLD : Hid (x9 ∈ found → ∃ fd ah, Fnd Rep w wr A.sl all (.slice af nf cf) (.slice (some ⟨ab, 0, none⟩) m ca) nf m fd ah) := fun hx => ⟨found, r, hF.am.old hx, hF.lf, hrl, hF.rf, hra2, hsp2, hF.bel⟩
        have HRF : Hid (∀ k y, found[k]? = some y → ∃ g, af = some ⟨g, 0, none⟩ ∧ wr.cell? ⟨g, k, none⟩ = some (nun y)) := fun k y hk => by
          have hkl := (List.getElem?_eq_some_iff.1 hk).1
          obtain ⟨g, rfl⟩ := hfa (by have := hF.lf; omega)
          refine ⟨g, rfl, ?_⟩
          have := hF.rf.cellAt (g := g) (cap := cf) k (by have := hF.lf; omega)
          rw [this, List.getElem?_map, hk]
          rfl
        have HF := Hid.mk' hF
        have HLF := Hid.mk' hF.lf
        have HRA2 := Hid.mk' hra2
        have HSP2 := Hid.mk' hsp2
        have HRL := Hid.mk' hrl
        clear hF hfa hra2 hsp2 e1 e2 hrl hfm ham
        go_wp2
        clear hcx hsl
        rename World => wo
        go_loopw [38] (fun kv wr => ∃ k9 : Nat, k9 ≤ nf ∧ kv = nun k9 ∧ Hid (wr = wo ∧ x9 ∉ found.take k9)) (fun kv _ => nf - (intOf kv).toNat)
        case atStart => exact ⟨0, Nat.zero_le _, rfl, rfl, by simp⟩
        case round =>
          obtain ⟨k9, hk9, rfl, HK⟩ := hrel
          have hwr := HK.out.1
          subst hwr
          by_cases hlt : k9 < nf
          · have hkI : (k9 : Int) < (nf : Int) := by omega
            obtain ⟨y, hy⟩ : ∃ y, found[k9]? = some y := ⟨_, List.getElem?_eq_getElem (by rw [HLF.out]; exact hlt)⟩
            obtain ⟨g, rfl, hcy⟩ := HRF.out k9 y hy
            have htk : found.take k9 ++ [y] = found.take (k9 + 1) := by
              obtain ⟨h1, rfl⟩ := List.getElem?_eq_some_iff.1 hy
              exact (List.take_succ_eq_append_getElem h1).symm
            by_cases he : y = x9
            · have hb : ((y : Int) == (x9 : Int)) = true := by simp [he]
              have HO := Hid.mk' (HOLD.out (he ▸ List.mem_of_getElem? hy))
              clear hy htk he HK HOLD HRF HF HLF HRA2 HSP2 HRL cB
              go_wp2
              go_roundw
              case rel => exact ⟨_, nf, cf, _, m, ca, rfl, rfl, HO.out⟩
              case measure => simp [lenV]
            · have hb : ((y : Int) == (x9 : Int)) = false := by simp; omega
              have HK2 : Hid (wr = wr ∧ x9 ∉ found.take (k9 + 1)) := by
                refine ⟨rfl, ?_⟩
                rw [← htk]
                intro hm
                rcases List.mem_append.1 hm with hm | hm
                · exact HK.out.2 hm
                · simp at hm
                  exact he hm.symm
              clear hy htk he HK
              go_wp2
              go_roundw
              case rel => exact ⟨k9 + 1, by omega, by go_num, trivial, HK2.out.2⟩
              case measure => simp [intOf]; omega
          · have hkn : k9 = nf := by omega
            have HX : Hid (x9 ∉ found) := by
              have := HK.out.2
              rwa [hkn, List.take_of_length_le (by rw [HLF.out]; exact Nat.le_refl _)] at this
            have hnk : ¬ (k9 : Int) < (nf : Int) := by omega
            have hbs := HF.out.bel.size
            clear hkn HK HOLD HRF hlt
            go_wp2_with (first | (at_builtin; refine wpList_append_int rfl _ _ rfl w.heap.size nf (.slice af nf cf) _ (found.map nun) wr.heap.size 1 [x9] rfl rfl (HF.out.rf.alloc _) (own_oneI wr x9) (by omega) (by simp; omega) ?_; intro v4 w4 ho4 hg4 hp4; obtain ⟨q1, q2, q3, q4, q5, q6⟩ := Fnd.found1 (Rep := Rep) HF.out.rf HRA2.out HSP2.out HF.out.bel ho4 hg4 hp4; have HQ1 := Hid.mk' q1; have HQ2 := Hid.mk' q2; have HQ3 := Hid.mk' q3; have HQ4 := Hid.mk' q4; obtain ⟨g4, c4, rfl⟩ := ownsRow_succ ho4; clear ho4 hg4 hp4 q1 q2 q3 q4 q5 q6) | fail)
            have hAm := HF.out.am.new HX.out
            have hnf : nf + 1 ≤ 32 := by have := hAm.len; rw [List.length_append, HLF.out, List.length_singleton] at this; exact this
            have HAm := Hid.mk' hAm
            have hkl := kidsL_len A.sl x9
            clear hAm
            refine (cB.out w4 x9 HQ4.out).mono ?_
            rintro e w5 ⟨a5, n5, c5, rfl, hQ5⟩
            have hn5 : n5 ≤ 32 := by rw [hQ5.out.1]; exact hkl
            have HF5 := Hid.mk' (own_bel HQ1.out hQ5.out.2.2)
            have HA5 := Hid.mk' (own_bel HQ2.out hQ5.out.2.2)
            have HB5 : Hid (Below w.heap.size w w5) := HQ4.out.trans (hQ5.out.2.2.mono HQ4.out.size)
            have hb5s := HB5.out.size
            clear HQ1 HQ2 hkl
            go_wp2_with (first | (at_builtin; refine wpList_append_int rfl _ _ rfl w.heap.size m (.slice (some ⟨ab, 0, none⟩) m ca) (.slice a5 n5 c5) (r.map nun) w4.heap.size n5 (kidsL A.sl x9).reverse rfl rfl HA5.out hQ5.out.2.1 (by omega) hb5s ?_; intro v6 w6 ho6 hg6 hp6; have HF6 := Hid.mk' (Fnd.ahead1 (Rep := Rep) HAm.out HLF.out HRL.out hQ5.out.1 HF5.out HA5.out HQ3.out HB5.out ho6 hg6 hp6); obtain ⟨a6, c6, rfl, _⟩ := Nm.own_shape ho6; clear ho6 hg6 hp6) | fail)
            go_roundw
            case rel => exact ⟨_, nf + 1, c4, _, m + n5, c6, rfl, rfl, _, _, HF6.out⟩
            case measure => simp [lenV]; omega
  · rw [decide_eq_false ht] at cs
    generalize A.at i = x at *
    have hu : undL A.sl i = [] := if_neg ht
    rw [hu]
    clear h hg C ht hu
    go_enter Tryz.func36, Tryz.ntmps36
    go_wp2
    go_step3
    go_wp2_with fail
    refine cs.out.mono ?_
    rintro e w1 ⟨rfl, hb1⟩
    have HB1 := Hid.mk' hb1
    have HZ := Hid.mk' (lone_zero w1)
    have HBZ : Hid (Below w.heap.size w (w1.alloc (.cells sltZ 40))) := HB1.out.alloc HB1.out.size _
    clear hb1 cs
    go_wp2_with (first | (refine wpList_store_lone rfl _ _ rfl w1.heap.size rfl x rfl slt0 HZ.out ?_; intro w2 hl2 hg2 hs2; have HB2 : Hid (Below w.heap.size w w2) := (HBZ.out.grown hg2 HBZ.out.size (fun r e => by cases e; exact HB1.out.size)); clear hl2 hg2 hs2) | fail)
    try rw [Exit.noGoto_ret]
    go_ret
    exact ⟨_, rfl, World.ownsRow_nil _ _ _ _, HB2.out⟩

set_option maxRecDepth 100000 in
set_option maxHeartbeats 1000000 in
theorem under_p (C : ArC Rep) (w : World) (p q : Nat) (F : Nat → Prop) (A : Arn) (l i : Int) (h : RepT Rep w p q F A l) (hg : An.Good A) :
    Calls Tryz.prog 16 #[ptr q, nu i] w fun e w' => ∃ fv X, e = .returned fv ∧ IterA w' fv X (undL A.sl i) ∧ (∀ b, X b → w.heap.size ≤ b) ∧ Below w.heap.size w w' := by
  have hfew : (undL A.sl i).length ≤ 32 := by
    unfold undL
    split
    · obtain ⟨h1, h2, _⟩ := und_ok A.sl 33 i.toNat [] (by omega) List.nodup_nil (by simp)
      exact nodup_few 32 _ h1 h2
    · simp
  have c1 : Hid (Calls Tryz.prog 36 #[ptr q, nu i] w fun e w' => ∃ a n c, e = .returned (.slice a n c) ∧ Hid (w'.ownsRow w.heap.size 3 1 (.slice a n c) n ((undL A.sl i).map nun) ∧ Below w.heap.size w w')) := by
    refine (found_p C w p q F A l i h hg).mono ?_
    rintro e w' ⟨v, rfl, ho, hb⟩
    obtain ⟨a, c, rfl, _⟩ := Nm.own_shape ho
    exact ⟨a, _, c, rfl, ho, hb⟩
  generalize undL A.sl i = L at *
  clear h hg C
  go_enter Tryz.func16, Tryz.ntmps16
  go_wp2_with fail
  refine c1.out.mono ?_
  rintro e w1 ⟨a1, n1, c1', rfl, hQ1⟩
  have c2 := Hid.mk' (last_step w w1 n1 w.heap.size (.slice a1 n1 c1') L hQ1.out.2 hQ1.out.1 hQ1.out.2.size hfew)
  go_wp2_with fail
  refine c2.out.mono ?_
  rintro e w2 ⟨Bl, rfl, hit, hX, hb, _⟩
  have HIT := Hid.mk' hit
  have HX := Hid.mk' hX
  have HB := Hid.mk' hb
  clear hit hX hb c2
  go_wp2
  go_ret
  exact ⟨_, _, rfl, HIT.out, HX.out, HB.out⟩

/-- The program's trees meet the contracts. -/
theorem treeC_of (C : ArC Rep) : TreeC Rep (RepT Rep) where
  keep := fun q l => ⟨fun h hk hn => RepT.keep C.keep h hk hn, fun h k hk => RepT.lt C.keep h k hk⟩
  get := fun q l w p F A i h hg _ => by
    obtain ⟨Fa, h1, h2, h3, rfl⟩ := h
    exact C.get w p Fa A i h1 hg
  put := fun q l w p F A i s h hg hwr _ => by
    obtain ⟨Fa, h1, h2, h3, rfl⟩ := h
    refine (C.put w p Fa A i s h1 hg hwr).mono ?_
    rintro e w' ⟨rfl, hl⟩
    exact ⟨rfl, leftT_of h2 h3 hl⟩
  new := fun w p F A h hg => new_p C w p F A h hg
  add := fun w p q F A l i us ub h hg hwr _ _ _ => add_p C w p q F A l i us ub h hg hwr
  cut := fun w p q F A l i h hg hwr _ => cut_p C w p q F A l i h hg hwr
  last := fun w p q F A l h => last_p w p q F A l h
  roots := fun w p q F A l h hg => roots_p C w p q F A l h hg
  kids := fun w p q F A l i h hg _ => kids_p C w p q F A l i h hg
  under := fun w p q F A l i h hg _ => under_p C w p q F A l i h hg

theorem treeCW_of (C : ArC Rep) (CW : WritesC Rep) : TreeCW Rep (RepT Rep) where
  toTreeC := treeC_of C
  writes := fun q l w p F A h hw => by
    obtain ⟨Fa, h1, h2, h3, rfl⟩ := h
    exact CW w p Fa A h1 hw
end

theorem arcP : ArC RepP := ⟨keepP, get_u, put_u, pushU, dropU, allU⟩

theorem treeP : TreeC RepP (RepT RepP) := treeC_of arcP

theorem treeWP : TreeCW RepP (RepT RepP) := treeCW_of arcP writes_any
end Tr
end Go.Proofs.YtcleeidfiaafcaaGreatDoor
