/- PackWrites. -/
import Derived.Test.YtojejenijhjglaaDoorTwoW
import Derived.Test.YtojejenijhjglaaDoorPutK
namespace Go.Proofs.YtojejenijhjglaaDoor
set_option linter.ambiguousOpen false
open Go.RowKit
namespace Pk
open Sm Ft
set_option linter.unusedSimpArgs false
set_option linter.unusedVariables false
variable {RW RR : World → Nat → (Nat → Prop) → List UInt8 → Prop}

/-- Nothing, or a slice that lies somewhere. -/
def Nz (u : Value) : Prop := u = .slice none 0 0 ∨ ∃ ad m c, u = .slice (some ad) m c

theorem nz_own {w : World} {base n : Nat} {e : TypeId} {size : Nat} {v : Value} {xs : List Value} (h : w.ownsRow base e size v n xs) : Nz v := by
  rcases h.2 with ⟨rfl, _⟩ | ⟨g, cap, cur, rfl, _⟩
  · exact .inl rfl
  · exact .inr ⟨_, _, _, rfl⟩

theorem append_rowP {w : World} {base n : Nat} {v : Value} {xs : List Value} (hown : w.ownsRow base 5 1 v n xs) {u : Value} {l : List UInt8} (hR : RdB w u l) (hz : Nz u) (hb : n + l.length ≤ 140737488355328) (hbase : base ≤ w.heap.size) (ty : TypeId) :
    ∃ v' w', (Builtin.append_ #[22, 22] ty #[v, u]).run Tryd.prog w = .ok v' w' ∧ w'.ownsRow base 5 1 v' (n + l.length) (xs ++ l.map by1) ∧ w.grownBy w' v.ownBlock ∧ (v'.ownBlock = v.ownBlock ∨ v'.ownBlock = some w.heap.size) := by
  obtain ⟨i0, hi, hz0, hz1, hz2⟩ := info_parts info_byte
  obtain ⟨a, cap, rfl, h1, h2, h3⟩ := hR
  rcases hz with hz | ⟨ad, m, c, hz⟩
  · obtain ⟨rfl, h0, rfl⟩ : a = none ∧ l.length = 0 ∧ cap = 0 := by simpa using hz
    obtain rfl := List.eq_nil_of_length_eq_zero h0
    refine ⟨v, w, ?_, by simpa using hown, ⟨rfl, rfl, rfl, Nat.le_refl _, fun _ _ _ => rfl⟩, .inl rfl⟩
    exact run_append_owned_none w base 22 ty 5 i0 1 Tryd.underlying22 hi v n xs hown
  · obtain ⟨rfl, h0, rfl⟩ : a = some ad ∧ l.length = m ∧ cap = c := by simpa using hz
    have hn : ∀ j u, (l.map by1)[j]? = some u → w.cell? (ad.add j) = some u := fun j u hj => by
      have hj' : j < l.length := by
        have := (List.getElem?_eq_some_iff.1 hj).1
        simpa using this
      obtain ⟨g, o, e1, _, e3⟩ := h3 (by omega)
      cases e1
      rw [List.getElem?_map, List.getElem?_eq_getElem hj'] at hj
      rw [Addr.add_mid, e3 j hj']
      exact hj
    obtain ⟨v', w', hr, g1, g2, _, g4⟩ := run_append_own_at (P := Tryd.prog) w base 22 ty 5 i0 (.int .u8 0) 1 1 Tryd.underlying22 hi hz0 hz1 hz2 rfl (by decide) v n xs hown ad l.length cap (l.map by1) (by simp) hn (fun u hu => by
      obtain ⟨b, _, rfl⟩ := List.mem_map.1 hu
      rfl) (by unfold maxLen; omega) (by omega) hbase
    exact ⟨v', w', hr, g1, g2, g4⟩

theorem wpList_append_rowP {w : World} {ops : Array Oper} {rest : List Oper} {o : Oper} {a : Act} {Q : Exit → Act → World → Prop} (hgd : o.guard = none) (s x : Operand)
    (ho : o.op = .call { callee := .builtin .append, args := #[s, x], argTypes := #[22, 22] })
    (base n : Nat) (v u : Value) (xs : List Value) (l : List UInt8) (hs : a.eval s = v) (hx : a.eval x = u) (hown : w.ownsRow base 5 1 v n xs) (hR : RdB w u l) (hz : Nz u) (hb : n + l.length ≤ 140737488355328) (hbase : base ≤ w.heap.size)
    (h : ∀ v' w', w'.ownsRow base 5 1 v' (n + l.length) (xs ++ l.map by1) → w.grownBy w' v.ownBlock → (v'.ownBlock = v.ownBlock ∨ v'.ownBlock = some w.heap.size) → wpList Tryd.prog ops Q rest (a.put o.dst v') w') : wpList Tryd.prog ops Q (o :: rest) a w := by
  refine wpList_plain hgd fun K hK => ?_
  obtain ⟨v', w', hr, h1, h2, h3⟩ := append_rowP hown hR hz hb hbase o.type
  unfold Oper.wp execOp
  simp only [ho, resolve, invoke, builtin, Sem.run_bind, Sem.run_pure, Result.andThen_ok, List.map_toArray, List.map_cons, List.map_nil, hs, hx, hr]
  exact hK _ _ (h v' w' h1 h2 h3)

/-- Two new writers. -/
theorem two_new (S : Says RW RR) {w0 w1 w2 : World} {px py : Nat} {Fx Fy : Nat → Prop} (hx : RW w1 px Fx []) (hF : ∀ k, Fx k → w0.heap.size ≤ k) (hb1 : Below w0.heap.size w0 w1) (hy : RW w2 py Fy []) (hG : ∀ k, Fy k → w1.heap.size ≤ k) (hb2 : Below w1.heap.size w1 w2) :
    Two RW w0 w2 (fun k => if k < w0.heap.size then 1000 else if k < w1.heap.size then 0 else 1) px py Fx Fy [] [] [] [] (.slice none 0 0) (.slice none 0 0) (.slice none 0 0) [] (fun _ => 0) (fun _ => []) := by
  refine ⟨S.keepW hx (Keep.of_below (F := fun _ => False) hb2) (fun _ _ h => h), hy, hb1.trans (hb2.mono hb1.size), World.ownsRow_nil _ _ _ _, World.ownsRow_nil _ _ _ _, World.ownsRow_nil _ _ _ _, fun j hj => by simp at hj, fun k hk => ?_, fun k hk => ?_, fun k hk => by simp [Value.ownBlock] at hk, fun k hk => by simp [Value.ownBlock] at hk, fun k hk => by simp [Value.ownBlock] at hk, fun j hj => by simp at hj, fun k hk => ?_⟩
  · have h1 := hF k hk
    have h2 := S.ltW hx k hk
    simp only [show ¬ k < w0.heap.size by omega, h2, if_false, if_true]
  · have h1 := hG k hk
    have h2 := hb1.size
    simp only [show ¬ k < w0.heap.size by omega, show ¬ k < w1.heap.size by omega, if_false]
  · simp only [hk, if_true]
    exact Nat.le_refl _

theorem item_parts (l : List Itm) (k : Nat) (r : Itm) (h : l[k]? = some r) : (allB (l.take k)).length + r.bytes.length ≤ (allB l).length := by
  have h1 := allB_le l (k + 1)
  rw [allB_take l k r h, List.length_append] at h1
  exact h1

set_option maxRecDepth 100000 in
set_option maxHeartbeats 16000000 in
theorem writes_yes (S : Says RW RR) (v : Value) (l : List Itm) (w : World) (hR : RdI w v l) (hf : ∀ r ∈ l, r.v < 18446744073709551616) (hl : (allB l).length ≤ 100000000) :
    Calls Tryd.prog 28 #[v] w fun e w' => e = .returned (.bool true) ∧ Below w.heap.size w w' := by
  obtain ⟨j0, hj, hy0, hy1, hy2⟩ := info_parts info_rowsY
  have cS : Hid (∀ (wx : World) (n : Nat), n < 18446744073709551616 → Calls Tryd.prog 43 #[.int .u64 (n : Int)] wx fun e w' => ∃ x, e = .returned x ∧ w'.ownsRow wx.heap.size 5 1 x (sev n).length ((sev n).map by1) ∧ Below wx.heap.size wx w') := fun wx n h => sevens_any n wx h
  have cB : Hid (∀ wx x y l, RdB wx x l → RdB wx y l → Calls Tryd.prog 47 #[x, y] wx fun e w' => e = .returned (.bool true) ∧ Below wx.heap.size wx w') := fun wx x y l h1 h2 => sameB_eq x y l wx h1 h2
  have c1 := Hid.mk' (S.new w)
  have c1' : Hid (∀ wx, Calls Tryd.prog 41 #[] wx fun e w' => ∃ p F, e = .returned (ptr p) ∧ RW w' p F [] ∧ (∀ k, F k → wx.heap.size ≤ k) ∧ Below wx.heap.size wx w') := S.new
  obtain ⟨a, cap, rfl, hc, hm, hcell⟩ := hR
  have HC := Hid.mk' hcell
  have HF := Hid.mk' hf
  unfold maxLen at hm
  clear hcell hf
  go_enter Tryd.func28, Tryd.ntmps28
  go_wp2_with fail
  refine c1.out.mono ?_
  rintro e w1 ⟨px, Fx, rfl, hx, hFx, hb1⟩
  go_wp2_with fail
  refine (c1'.out _).mono ?_
  rintro e w2 ⟨py, Fy, rfl, hy, hFy, hb2⟩
  have H2 := Hid.mk' (two_new S hx hFx hb1 hy hFy hb2)
  have C3 := Hid.mk' (S.bytes w2 px Fx [] H2.out.x (by decide))
  clear hx hFx hb1 hy hFy hb2 c1 c1'
  go_wp2_with fail
  refine C3.out.mono ?_
  rintro e w3 ⟨x3, rfl, ho3, hb3⟩
  obtain ⟨a3, c3, rfl, _⟩ := Nm.own_shape ho3
  have H3 := Hid.mk' (H2.out.below S hb3)
  clear ho3 hb3 H2 C3
  go_wp2
  go_loopw [5, 6, 7, 8] (fun av bv lv iv wr => ∃ (k : Nat) (τ : Nat → Nat) (Fx Fy : Nat → Prop) (lx ly : List UInt8) (vs : List Value) (ln : Nat → Nat) (f : Nat → List Value), k ≤ l.length ∧ vs.length ≤ k ∧ vs.length ≤ 20 ∧ iv = nu k ∧ Hid (Two RW w wr τ px py Fx Fy lx ly lx ly av bv lv vs ln f) ∧ Hid (∀ j, ln j ≤ 100000000) ∧ Hid (lx.length + ly.length ≤ (allB (l.take k)).length)) (fun _ _ _ iv _ => l.length - (intOf iv).toNat)
  case atStart => exact ⟨0, _, Fx, Fy, [], [], [], _, _, Nat.zero_le _, Nat.le_refl _, by decide, rfl, H3, fun j => by decide, Nat.le_refl _⟩
  case round =>
    clear H3
    rename_i Fx0 Fy0
    obtain ⟨k, τ, Fx, Fy, lx, ly, vs, ln, f, hk, hvk, hv20, rfl, HT, HLN, HLE⟩ := hrel
    obtain ⟨aa, ca, rfl, hca1, hca2, _⟩ := Nm.own_shape HT.out.oa
    obtain ⟨ab, cb, rfl, hcb1, hcb2, _⟩ := Nm.own_shape HT.out.ob
    obtain ⟨al, cl, rfl, hcl1, hcl2, hcl3⟩ := Nm.own_shape HT.out.ol
    have HCL := Hid.mk' hcl3
    clear hcl3
    unfold maxLen at hca2 hcb2 hcl2
    by_cases hp : (k : Int) < (l.length : Int)
    · obtain ⟨g, o, rfl, hgl, hcj⟩ := HC.out (by omega)
      obtain ⟨r, hr⟩ : ∃ r, l[k]? = some r := ⟨_, List.getElem?_eq_getElem (by omega)⟩
      obtain ⟨d0, d1, d2⟩ := hcj k r hr
      have hrv := HF.out r (List.mem_of_getElem? hr)
      have hip := item_parts l k r hr
      have hta := allB_take l k r hr
      have hk0 : (0 : Int) ≤ (k : Int) := by omega
      obtain ⟨rt, rv, rs⟩ := r
      have hlat : Hid (∀ w2, Below w.heap.size w w2 → w2.cell? ⟨g, o + k * 3, none⟩ = some (.bool rt) ∧ w2.cell? ⟨g, o + k * 3 + 1, none⟩ = some (.int .u64 (rv : Int)) ∧ w2.cell? ⟨g, o + k * 3 + 2, none⟩ = some (.string (tx rs))) := fun w2 hb =>
        ⟨(hb.cell (p := ⟨g, o + k * 3, none⟩) hgl).trans d0, (hb.cell (p := ⟨g, o + k * 3 + 1, none⟩) hgl).trans d1, (hb.cell (p := ⟨g, o + k * 3 + 2, none⟩) hgl).trans d2⟩
      obtain ⟨q0, q1, q2⟩ := hlat.out _ HT.out.bel
      have hrvS := Hid.mk' (sev_len10 rv hrv)
      have hbd : Hid (lx.length + ly.length + (Itm.bytes ⟨rt, rv, rs⟩).length ≤ 100000000) := by
        have := HLE.out
        show _ ≤ _
        omega
      have hLE2 : Hid (lx.length + ly.length + (Itm.bytes ⟨rt, rv, rs⟩).length ≤ (allB (l.take (k + 1))).length) := by
        have := HLE.out
        show _ ≤ _
        rw [hta, List.length_append]
        omega
      clear hcj hr d0 d1 d2 hip hta
      by_cases hmm : k % 3 = 2
      · have hm3 : (((k : Int) % 3) == 2) = true := by simp; omega
        clear hmm
        cases rt with
        | true =>
          by_cases h20 : (k : Int) < 20
          · have hbd' : Hid (lx.length + ly.length + (txt rs).length ≤ 100000000) := hbd
            have hLE' : Hid (lx.length + ly.length + (txt rs).length ≤ (allB (l.take (k + 1))).length) := hLE2
            clear hbd hLE2
            have cT : Hid (∀ wx, Calls Tryd.prog 45 #[.string (tx rs)] wx fun e w' => ∃ x, e = .returned x ∧ w'.ownsRow wx.heap.size 5 1 x (txt rs).length ((txt rs).map by1) ∧ Below wx.heap.size wx w') := fun wx => text_ref rs wx (by have := hbd'.out; simp only [txt, List.length_append] at this; omega)
            go_wp2_with fail
            refine (cS.out _ _ hrv).mono ?_
            rintro e w1 ⟨p1v, rfl, ho1, hb1⟩
            obtain ⟨ap1, cp1, rfl, _⟩ := Nm.own_shape ho1
            have H1 := Hid.mk' (HT.out.below S hb1)
            have O1 := Hid.mk' ho1
            obtain ⟨z0, z1, z2⟩ := hlat.out _ H1.out.bel
            clear ho1 hb1 q0 q1 q2
            have C2 := Hid.mk' (S.text w1 py Fy ly rs H1.out.y (by have := hbd'.out; simp only [List.length_append]; omega))
            generalize tx rs = f0 at *
            go_wp2_with fail
            refine C2.out.mono ?_
            rintro e w2 ⟨⟨u, rfl⟩, F2, hr2, hk2, hg2⟩
            have H2 := Hid.mk' (H1.out.puty S hr2 hk2 hg2)
            obtain ⟨y0, y1, y2⟩ := hlat.out _ H2.out.bel
            clear hr2 hk2 hg2 C2 H1 z0 z1 z2
            go_wp2_with fail
            refine (cT.out _).mono ?_
            rintro e w3 ⟨p3v, rfl, ho3, hb3⟩
            obtain ⟨ap3, cp3, rfl, _⟩ := Nm.own_shape ho3
            have H3 := Hid.mk' (H2.out.below S hb3)
            have O3 := Hid.mk' ho3
            clear ho3 hb3 H2 O1 y0 y1 y2
            go_wp2_with (at_builtin; refine wpList_append_rowP rfl _ _ rfl w.heap.size _ _ _ _ (txt rs) rfl rfl H3.out.ob (own_rd O3.out) (nz_own O3.out) (by have := hbd'.out; omega) H3.out.bel.size ?_; intro v4 w4 ho4 hg4 hp4; have H4 := Hid.mk' (H3.out.appb S (l' := ly ++ (txt rs)) (by rw [List.length_append, List.map_append]; exact ho4) hg4 hp4); obtain ⟨a4, c4, rfl, _⟩ := Nm.own_shape ho4; clear ho4 hg4 hp4 H3 O3)
            have HLX : Hid (lx.length = lx.length) := rfl
            have C5 := Hid.mk' (S.bytes w4 px Fx lx H4.out.x (by have := hbd'.out; have := HLX.out; omega))
            go_wp2_with fail
            refine C5.out.mono ?_
            rintro e w5 ⟨x5, rfl, ho5, hb5⟩
            obtain ⟨hT5, hB5⟩ := H4.out.made S hb5 ho5 (5 + vs.length)
            obtain ⟨a5, c5, rfl, _⟩ := Nm.own_shape ho5
            have hal : Below w5.heap.size w5 (w5.alloc (.cells #[.slice a5 lx.length c5] 22)) := (Below.refl _ _).alloc (Nat.le_refl _) _
            have H6 := Hid.mk' (hT5.below S hal)
            have B6 := Hid.mk' (hB5.below' hal)
            clear ho5 hb5 hT5 hB5 hal C5 H4
            have hnb : Hid ((w5.alloc (.cells #[.slice a5 lx.length c5] 22)).heap[w5.heap.size]? = some (.cells #[.slice a5 lx.length c5] 22)) := heap_alloc_new _ _
            have hsz : Hid ((w5.alloc (.cells #[.slice a5 lx.length c5] 22)).heap.size = w5.heap.size + 1) := by show _ = _; simp
            have hone : Hid (∀ u ∈ [Value.slice a5 lx.length c5], u.oneCell' = true) := by intro u hu; simp at hu; subst hu; rfl
            have hstep : Hid (∀ (w7 : World) (g2 cap2 : Nat), w7.ownsRow w.heap.size 22 1 (.slice (some ⟨g2, 0, none⟩) (vs.length + 1) cap2) (vs.length + 1) (vs ++ [.slice a5 lx.length c5]) → (w5.alloc (.cells #[.slice a5 lx.length c5] 22)).grownBy w7 (Value.slice al vs.length cl).ownBlock → ((Value.slice al vs.length cl).ownBlock = some g2 ∨ g2 = w5.heap.size + 1) → _ ∧ RdB w7 (.slice a5 lx.length c5) lx ∧ w7.cell? ⟨g2, vs.length, none⟩ = some (.slice a5 lx.length c5)) := fun w7 g2 cap2 ho hg hp => ⟨H6.out.appl S B6.out (by omega) ho hg (hp.elim (fun h => .inl h.symm) (fun h => .inr (by rw [hsz.out, ← h]; rfl))), H6.out.kept4 S B6.out (by omega) hg, by have := rows_cell ho (by simp) vs.length (by simp); simpa using this⟩
            go_wp2_with (at_builtin; refine wpList_append_lies _ rfl _ _ 83 rfl w.heap.size 22 j0 (.slice none 0 0) 1 24 Tryd.underlying83 hj hy0 hy1 hy2 rfl (by decide) _ vs.length vs rfl H6.out.ol ⟨w5.heap.size, 0, none⟩ 1 1 [.slice a5 lx.length c5] rfl rfl (World.news_of_block hnb.out) hone.out (by decide) (by unfold maxLen; omega) (by omega) H6.out.bel.size (w5.heap.size + 1) hsz.out ?_; intro g2 cap2 w7 hown7 hgrow hg2 hlt2; obtain ⟨hT7, hR7, hc7⟩ := hstep.out _ _ _ hown7 hgrow hg2; have C8 := Hid.mk' (cB.out _ _ _ _ hR7 (own_rd hT7.oa)); have H7 := Hid.mk' hT7; clear hown7 hgrow hT7 hR7 hstep H6 B6 hnb)
            go_wp2_with fail
            refine C8.out.mono ?_
            rintro e w8 ⟨rfl, hb8⟩
            have H8 := Hid.mk' (H7.out.below S hb8)
            clear hb8 H7 C8 hc7
            go_wp2
            go_roundw
            case rel => exact ⟨k + 1, _, Fx, F2, lx, (ly ++ (txt rs)), vs ++ [.slice a5 lx.length c5], _, _, by omega, by simp; omega, by simp; omega, by go_num, H8, (fun j => by have := HLN.out j; have := hbd'.out; have := HLX.out; show (if _ then _ else _) ≤ _; split <;> omega), (by have := hLE'.out; have := HLX.out; show _ ≤ _; (try simp only [List.length_append]); omega)⟩
            case measure => simp [intOf]; omega
          · have hbd' : Hid (lx.length + ly.length + (txt rs).length ≤ 100000000) := hbd
            have hLE' : Hid (lx.length + ly.length + (txt rs).length ≤ (allB (l.take (k + 1))).length) := hLE2
            clear hbd hLE2
            have cT : Hid (∀ wx, Calls Tryd.prog 45 #[.string (tx rs)] wx fun e w' => ∃ x, e = .returned x ∧ w'.ownsRow wx.heap.size 5 1 x (txt rs).length ((txt rs).map by1) ∧ Below wx.heap.size wx w') := fun wx => text_ref rs wx (by have := hbd'.out; simp only [txt, List.length_append] at this; omega)
            go_wp2_with fail
            refine (cS.out _ _ hrv).mono ?_
            rintro e w1 ⟨p1v, rfl, ho1, hb1⟩
            obtain ⟨ap1, cp1, rfl, _⟩ := Nm.own_shape ho1
            have H1 := Hid.mk' (HT.out.below S hb1)
            have O1 := Hid.mk' ho1
            obtain ⟨z0, z1, z2⟩ := hlat.out _ H1.out.bel
            clear ho1 hb1 q0 q1 q2
            have C2 := Hid.mk' (S.text w1 py Fy ly rs H1.out.y (by have := hbd'.out; simp only [List.length_append]; omega))
            generalize tx rs = f0 at *
            go_wp2_with fail
            refine C2.out.mono ?_
            rintro e w2 ⟨⟨u, rfl⟩, F2, hr2, hk2, hg2⟩
            have H2 := Hid.mk' (H1.out.puty S hr2 hk2 hg2)
            obtain ⟨y0, y1, y2⟩ := hlat.out _ H2.out.bel
            clear hr2 hk2 hg2 C2 H1 z0 z1 z2
            go_wp2_with fail
            refine (cT.out _).mono ?_
            rintro e w3 ⟨p3v, rfl, ho3, hb3⟩
            obtain ⟨ap3, cp3, rfl, _⟩ := Nm.own_shape ho3
            have H3 := Hid.mk' (H2.out.below S hb3)
            have O3 := Hid.mk' ho3
            clear ho3 hb3 H2 O1 y0 y1 y2
            go_wp2_with (at_builtin; refine wpList_append_rowP rfl _ _ rfl w.heap.size _ _ _ _ (txt rs) rfl rfl H3.out.ob (own_rd O3.out) (nz_own O3.out) (by have := hbd'.out; omega) H3.out.bel.size ?_; intro v4 w4 ho4 hg4 hp4; have H4 := Hid.mk' (H3.out.appb S (l' := ly ++ (txt rs)) (by rw [List.length_append, List.map_append]; exact ho4) hg4 hp4); obtain ⟨a4, c4, rfl, _⟩ := Nm.own_shape ho4; clear ho4 hg4 hp4 H3 O3)
            go_wp2
            go_roundw
            case rel => exact ⟨k + 1, _, Fx, F2, lx, (ly ++ (txt rs)), vs, ln, f, by omega, by omega, hv20, by go_num, H4, HLN, (by have := hLE'.out; show _ ≤ _; simp only [List.length_append] at this ⊢; omega)⟩
            case measure => simp [intOf]; omega
        | false =>
          by_cases h20 : (k : Int) < 20
          · have hbd' : Hid (lx.length + ly.length + (sev rv).length ≤ 100000000) := hbd
            have hLE' : Hid (lx.length + ly.length + (sev rv).length ≤ (allB (l.take (k + 1))).length) := hLE2
            clear hbd hLE2
            go_wp2_with fail
            refine (cS.out _ _ hrv).mono ?_
            rintro e w1 ⟨p1v, rfl, ho1, hb1⟩
            obtain ⟨ap1, cp1, rfl, _⟩ := Nm.own_shape ho1
            have H1 := Hid.mk' (HT.out.below S hb1)
            have O1 := Hid.mk' ho1
            obtain ⟨z0, z1, z2⟩ := hlat.out _ H1.out.bel
            clear ho1 hb1 q0 q1 q2
            have C2 := Hid.mk' (S.number w1 py Fy ly rv H1.out.y hrv (by have := hbd'.out; simp only [List.length_append]; omega))
            generalize tx rs = f0 at *
            go_wp2_with fail
            refine C2.out.mono ?_
            rintro e w3 ⟨⟨u, rfl⟩, F2, hr2, hk2, hg2⟩
            have O3 : Hid (w3.ownsRow wr.heap.size 5 1 (.slice ap1 (sev rv).length cp1) (sev rv).length ((sev rv).map by1)) := hk2.own O1.out (fun g hg hf => by have := (O1.out.lt g hg).1; have := S.ltW HT.out.y g hf; omega)
            have H3 := Hid.mk' (H1.out.puty S hr2 hk2 hg2)
            clear hr2 hk2 hg2 C2 H1 O1 z0 z1 z2
            go_wp2_with (at_builtin; refine wpList_append_rowP rfl _ _ rfl w.heap.size _ _ _ _ (sev rv) rfl rfl H3.out.ob (own_rd O3.out) (nz_own O3.out) (by have := hbd'.out; omega) H3.out.bel.size ?_; intro v4 w4 ho4 hg4 hp4; have H4 := Hid.mk' (H3.out.appb S (l' := ly ++ (sev rv)) (by rw [List.length_append, List.map_append]; exact ho4) hg4 hp4); obtain ⟨a4, c4, rfl, _⟩ := Nm.own_shape ho4; clear ho4 hg4 hp4 H3 O3)
            have HLX : Hid (lx.length = lx.length) := rfl
            have C5 := Hid.mk' (S.bytes w4 px Fx lx H4.out.x (by have := hbd'.out; have := HLX.out; omega))
            go_wp2_with fail
            refine C5.out.mono ?_
            rintro e w5 ⟨x5, rfl, ho5, hb5⟩
            obtain ⟨hT5, hB5⟩ := H4.out.made S hb5 ho5 (5 + vs.length)
            obtain ⟨a5, c5, rfl, _⟩ := Nm.own_shape ho5
            have hal : Below w5.heap.size w5 (w5.alloc (.cells #[.slice a5 lx.length c5] 22)) := (Below.refl _ _).alloc (Nat.le_refl _) _
            have H6 := Hid.mk' (hT5.below S hal)
            have B6 := Hid.mk' (hB5.below' hal)
            clear ho5 hb5 hT5 hB5 hal C5 H4
            have hnb : Hid ((w5.alloc (.cells #[.slice a5 lx.length c5] 22)).heap[w5.heap.size]? = some (.cells #[.slice a5 lx.length c5] 22)) := heap_alloc_new _ _
            have hsz : Hid ((w5.alloc (.cells #[.slice a5 lx.length c5] 22)).heap.size = w5.heap.size + 1) := by show _ = _; simp
            have hone : Hid (∀ u ∈ [Value.slice a5 lx.length c5], u.oneCell' = true) := by intro u hu; simp at hu; subst hu; rfl
            have hstep : Hid (∀ (w7 : World) (g2 cap2 : Nat), w7.ownsRow w.heap.size 22 1 (.slice (some ⟨g2, 0, none⟩) (vs.length + 1) cap2) (vs.length + 1) (vs ++ [.slice a5 lx.length c5]) → (w5.alloc (.cells #[.slice a5 lx.length c5] 22)).grownBy w7 (Value.slice al vs.length cl).ownBlock → ((Value.slice al vs.length cl).ownBlock = some g2 ∨ g2 = w5.heap.size + 1) → _ ∧ RdB w7 (.slice a5 lx.length c5) lx ∧ w7.cell? ⟨g2, vs.length, none⟩ = some (.slice a5 lx.length c5)) := fun w7 g2 cap2 ho hg hp => ⟨H6.out.appl S B6.out (by omega) ho hg (hp.elim (fun h => .inl h.symm) (fun h => .inr (by rw [hsz.out, ← h]; rfl))), H6.out.kept4 S B6.out (by omega) hg, by have := rows_cell ho (by simp) vs.length (by simp); simpa using this⟩
            go_wp2_with (at_builtin; refine wpList_append_lies _ rfl _ _ 83 rfl w.heap.size 22 j0 (.slice none 0 0) 1 24 Tryd.underlying83 hj hy0 hy1 hy2 rfl (by decide) _ vs.length vs rfl H6.out.ol ⟨w5.heap.size, 0, none⟩ 1 1 [.slice a5 lx.length c5] rfl rfl (World.news_of_block hnb.out) hone.out (by decide) (by unfold maxLen; omega) (by omega) H6.out.bel.size (w5.heap.size + 1) hsz.out ?_; intro g2 cap2 w7 hown7 hgrow hg2 hlt2; obtain ⟨hT7, hR7, hc7⟩ := hstep.out _ _ _ hown7 hgrow hg2; have C8 := Hid.mk' (cB.out _ _ _ _ hR7 (own_rd hT7.oa)); have H7 := Hid.mk' hT7; clear hown7 hgrow hT7 hR7 hstep H6 B6 hnb)
            go_wp2_with fail
            refine C8.out.mono ?_
            rintro e w8 ⟨rfl, hb8⟩
            have H8 := Hid.mk' (H7.out.below S hb8)
            clear hb8 H7 C8 hc7
            go_wp2
            go_roundw
            case rel => exact ⟨k + 1, _, Fx, F2, lx, (ly ++ (sev rv)), vs ++ [.slice a5 lx.length c5], _, _, by omega, by simp; omega, by simp; omega, by go_num, H8, (fun j => by have := HLN.out j; have := hbd'.out; have := HLX.out; show (if _ then _ else _) ≤ _; split <;> omega), (by have := hLE'.out; have := HLX.out; show _ ≤ _; (try simp only [List.length_append]); omega)⟩
            case measure => simp [intOf]; omega
          · have hbd' : Hid (lx.length + ly.length + (sev rv).length ≤ 100000000) := hbd
            have hLE' : Hid (lx.length + ly.length + (sev rv).length ≤ (allB (l.take (k + 1))).length) := hLE2
            clear hbd hLE2
            go_wp2_with fail
            refine (cS.out _ _ hrv).mono ?_
            rintro e w1 ⟨p1v, rfl, ho1, hb1⟩
            obtain ⟨ap1, cp1, rfl, _⟩ := Nm.own_shape ho1
            have H1 := Hid.mk' (HT.out.below S hb1)
            have O1 := Hid.mk' ho1
            obtain ⟨z0, z1, z2⟩ := hlat.out _ H1.out.bel
            clear ho1 hb1 q0 q1 q2
            have C2 := Hid.mk' (S.number w1 py Fy ly rv H1.out.y hrv (by have := hbd'.out; simp only [List.length_append]; omega))
            generalize tx rs = f0 at *
            go_wp2_with fail
            refine C2.out.mono ?_
            rintro e w3 ⟨⟨u, rfl⟩, F2, hr2, hk2, hg2⟩
            have O3 : Hid (w3.ownsRow wr.heap.size 5 1 (.slice ap1 (sev rv).length cp1) (sev rv).length ((sev rv).map by1)) := hk2.own O1.out (fun g hg hf => by have := (O1.out.lt g hg).1; have := S.ltW HT.out.y g hf; omega)
            have H3 := Hid.mk' (H1.out.puty S hr2 hk2 hg2)
            clear hr2 hk2 hg2 C2 H1 O1 z0 z1 z2
            go_wp2_with (at_builtin; refine wpList_append_rowP rfl _ _ rfl w.heap.size _ _ _ _ (sev rv) rfl rfl H3.out.ob (own_rd O3.out) (nz_own O3.out) (by have := hbd'.out; omega) H3.out.bel.size ?_; intro v4 w4 ho4 hg4 hp4; have H4 := Hid.mk' (H3.out.appb S (l' := ly ++ (sev rv)) (by rw [List.length_append, List.map_append]; exact ho4) hg4 hp4); obtain ⟨a4, c4, rfl, _⟩ := Nm.own_shape ho4; clear ho4 hg4 hp4 H3 O3)
            go_wp2
            go_roundw
            case rel => exact ⟨k + 1, _, Fx, F2, lx, (ly ++ (sev rv)), vs, ln, f, by omega, by omega, hv20, by go_num, H4, HLN, (by have := hLE'.out; show _ ≤ _; simp only [List.length_append] at this ⊢; omega)⟩
            case measure => simp [intOf]; omega
      · have hm3 : (((k : Int) % 3) == 2) = false := by simp; omega
        clear hmm
        cases rt with
        | true =>
          by_cases h20 : (k : Int) < 20
          · have hbd' : Hid (lx.length + ly.length + (txt rs).length ≤ 100000000) := hbd
            have hLE' : Hid (lx.length + ly.length + (txt rs).length ≤ (allB (l.take (k + 1))).length) := hLE2
            clear hbd hLE2
            have cT : Hid (∀ wx, Calls Tryd.prog 45 #[.string (tx rs)] wx fun e w' => ∃ x, e = .returned x ∧ w'.ownsRow wx.heap.size 5 1 x (txt rs).length ((txt rs).map by1) ∧ Below wx.heap.size wx w') := fun wx => text_ref rs wx (by have := hbd'.out; simp only [txt, List.length_append] at this; omega)
            go_wp2_with fail
            refine (cS.out _ _ hrv).mono ?_
            rintro e w1 ⟨p1v, rfl, ho1, hb1⟩
            obtain ⟨ap1, cp1, rfl, _⟩ := Nm.own_shape ho1
            have H1 := Hid.mk' (HT.out.below S hb1)
            have O1 := Hid.mk' ho1
            obtain ⟨z0, z1, z2⟩ := hlat.out _ H1.out.bel
            clear ho1 hb1 q0 q1 q2
            have C2 := Hid.mk' (S.text w1 px Fx lx rs H1.out.x (by have := hbd'.out; simp only [List.length_append]; omega))
            generalize tx rs = f0 at *
            go_wp2_with fail
            refine C2.out.mono ?_
            rintro e w2 ⟨⟨u, rfl⟩, F2, hr2, hk2, hg2⟩
            have H2 := Hid.mk' (H1.out.putx S hr2 hk2 hg2)
            obtain ⟨y0, y1, y2⟩ := hlat.out _ H2.out.bel
            clear hr2 hk2 hg2 C2 H1 z0 z1 z2
            go_wp2_with fail
            refine (cT.out _).mono ?_
            rintro e w3 ⟨p3v, rfl, ho3, hb3⟩
            obtain ⟨ap3, cp3, rfl, _⟩ := Nm.own_shape ho3
            have H3 := Hid.mk' (H2.out.below S hb3)
            have O3 := Hid.mk' ho3
            clear ho3 hb3 H2 O1 y0 y1 y2
            go_wp2_with (at_builtin; refine wpList_append_rowP rfl _ _ rfl w.heap.size _ _ _ _ (txt rs) rfl rfl H3.out.oa (own_rd O3.out) (nz_own O3.out) (by have := hbd'.out; omega) H3.out.bel.size ?_; intro v4 w4 ho4 hg4 hp4; have H4 := Hid.mk' (H3.out.appa S (l' := lx ++ (txt rs)) (by rw [List.length_append, List.map_append]; exact ho4) hg4 hp4); obtain ⟨a4, c4, rfl, _⟩ := Nm.own_shape ho4; clear ho4 hg4 hp4 H3 O3)
            obtain ⟨LX, hLX⟩ : ∃ LX, lx ++ (txt rs) = LX := ⟨_, rfl⟩
            rw [hLX] at H4
            have HLX : Hid (LX.length = lx.length + (txt rs).length) := by show _ = _; rw [← hLX, List.length_append]
            clear hLX
            have C5 := Hid.mk' (S.bytes w4 px F2 LX H4.out.x (by have := hbd'.out; have := HLX.out; omega))
            go_wp2_with fail
            refine C5.out.mono ?_
            rintro e w5 ⟨x5, rfl, ho5, hb5⟩
            obtain ⟨hT5, hB5⟩ := H4.out.made S hb5 ho5 (5 + vs.length)
            obtain ⟨a5, c5, rfl, _⟩ := Nm.own_shape ho5
            have hal : Below w5.heap.size w5 (w5.alloc (.cells #[.slice a5 LX.length c5] 22)) := (Below.refl _ _).alloc (Nat.le_refl _) _
            have H6 := Hid.mk' (hT5.below S hal)
            have B6 := Hid.mk' (hB5.below' hal)
            clear ho5 hb5 hT5 hB5 hal C5 H4
            have hnb : Hid ((w5.alloc (.cells #[.slice a5 LX.length c5] 22)).heap[w5.heap.size]? = some (.cells #[.slice a5 LX.length c5] 22)) := heap_alloc_new _ _
            have hsz : Hid ((w5.alloc (.cells #[.slice a5 LX.length c5] 22)).heap.size = w5.heap.size + 1) := by show _ = _; simp
            have hone : Hid (∀ u ∈ [Value.slice a5 LX.length c5], u.oneCell' = true) := by intro u hu; simp at hu; subst hu; rfl
            have hstep : Hid (∀ (w7 : World) (g2 cap2 : Nat), w7.ownsRow w.heap.size 22 1 (.slice (some ⟨g2, 0, none⟩) (vs.length + 1) cap2) (vs.length + 1) (vs ++ [.slice a5 LX.length c5]) → (w5.alloc (.cells #[.slice a5 LX.length c5] 22)).grownBy w7 (Value.slice al vs.length cl).ownBlock → ((Value.slice al vs.length cl).ownBlock = some g2 ∨ g2 = w5.heap.size + 1) → _ ∧ RdB w7 (.slice a5 LX.length c5) LX ∧ w7.cell? ⟨g2, vs.length, none⟩ = some (.slice a5 LX.length c5)) := fun w7 g2 cap2 ho hg hp => ⟨H6.out.appl S B6.out (by omega) ho hg (hp.elim (fun h => .inl h.symm) (fun h => .inr (by rw [hsz.out, ← h]; rfl))), H6.out.kept4 S B6.out (by omega) hg, by have := rows_cell ho (by simp) vs.length (by simp); simpa using this⟩
            go_wp2_with (at_builtin; refine wpList_append_lies _ rfl _ _ 83 rfl w.heap.size 22 j0 (.slice none 0 0) 1 24 Tryd.underlying83 hj hy0 hy1 hy2 rfl (by decide) _ vs.length vs rfl H6.out.ol ⟨w5.heap.size, 0, none⟩ 1 1 [.slice a5 LX.length c5] rfl rfl (World.news_of_block hnb.out) hone.out (by decide) (by unfold maxLen; omega) (by omega) H6.out.bel.size (w5.heap.size + 1) hsz.out ?_; intro g2 cap2 w7 hown7 hgrow hg2 hlt2; obtain ⟨hT7, hR7, hc7⟩ := hstep.out _ _ _ hown7 hgrow hg2; have C8 := Hid.mk' (cB.out _ _ _ _ hR7 (own_rd hT7.oa)); have H7 := Hid.mk' hT7; clear hown7 hgrow hT7 hR7 hstep H6 B6 hnb)
            go_wp2_with fail
            refine C8.out.mono ?_
            rintro e w8 ⟨rfl, hb8⟩
            have H8 := Hid.mk' (H7.out.below S hb8)
            clear hb8 H7 C8 hc7
            go_wp2
            go_roundw
            case rel => exact ⟨k + 1, _, F2, Fy, LX, ly, vs ++ [.slice a5 LX.length c5], _, _, by omega, by simp; omega, by simp; omega, by go_num, H8, (fun j => by have := HLN.out j; have := hbd'.out; have := HLX.out; show (if _ then _ else _) ≤ _; split <;> omega), (by have := hLE'.out; have := HLX.out; show _ ≤ _; (try simp only [List.length_append]); omega)⟩
            case measure => simp [intOf]; omega
          · have hbd' : Hid (lx.length + ly.length + (txt rs).length ≤ 100000000) := hbd
            have hLE' : Hid (lx.length + ly.length + (txt rs).length ≤ (allB (l.take (k + 1))).length) := hLE2
            clear hbd hLE2
            have cT : Hid (∀ wx, Calls Tryd.prog 45 #[.string (tx rs)] wx fun e w' => ∃ x, e = .returned x ∧ w'.ownsRow wx.heap.size 5 1 x (txt rs).length ((txt rs).map by1) ∧ Below wx.heap.size wx w') := fun wx => text_ref rs wx (by have := hbd'.out; simp only [txt, List.length_append] at this; omega)
            go_wp2_with fail
            refine (cS.out _ _ hrv).mono ?_
            rintro e w1 ⟨p1v, rfl, ho1, hb1⟩
            obtain ⟨ap1, cp1, rfl, _⟩ := Nm.own_shape ho1
            have H1 := Hid.mk' (HT.out.below S hb1)
            have O1 := Hid.mk' ho1
            obtain ⟨z0, z1, z2⟩ := hlat.out _ H1.out.bel
            clear ho1 hb1 q0 q1 q2
            have C2 := Hid.mk' (S.text w1 px Fx lx rs H1.out.x (by have := hbd'.out; simp only [List.length_append]; omega))
            generalize tx rs = f0 at *
            go_wp2_with fail
            refine C2.out.mono ?_
            rintro e w2 ⟨⟨u, rfl⟩, F2, hr2, hk2, hg2⟩
            have H2 := Hid.mk' (H1.out.putx S hr2 hk2 hg2)
            obtain ⟨y0, y1, y2⟩ := hlat.out _ H2.out.bel
            clear hr2 hk2 hg2 C2 H1 z0 z1 z2
            go_wp2_with fail
            refine (cT.out _).mono ?_
            rintro e w3 ⟨p3v, rfl, ho3, hb3⟩
            obtain ⟨ap3, cp3, rfl, _⟩ := Nm.own_shape ho3
            have H3 := Hid.mk' (H2.out.below S hb3)
            have O3 := Hid.mk' ho3
            clear ho3 hb3 H2 O1 y0 y1 y2
            go_wp2_with (at_builtin; refine wpList_append_rowP rfl _ _ rfl w.heap.size _ _ _ _ (txt rs) rfl rfl H3.out.oa (own_rd O3.out) (nz_own O3.out) (by have := hbd'.out; omega) H3.out.bel.size ?_; intro v4 w4 ho4 hg4 hp4; have H4 := Hid.mk' (H3.out.appa S (l' := lx ++ (txt rs)) (by rw [List.length_append, List.map_append]; exact ho4) hg4 hp4); obtain ⟨a4, c4, rfl, _⟩ := Nm.own_shape ho4; clear ho4 hg4 hp4 H3 O3)
            go_wp2
            go_roundw
            case rel => exact ⟨k + 1, _, F2, Fy, (lx ++ (txt rs)), ly, vs, ln, f, by omega, by omega, hv20, by go_num, H4, HLN, (by have := hLE'.out; show _ ≤ _; simp only [List.length_append] at this ⊢; omega)⟩
            case measure => simp [intOf]; omega
        | false =>
          by_cases h20 : (k : Int) < 20
          · have hbd' : Hid (lx.length + ly.length + (sev rv).length ≤ 100000000) := hbd
            have hLE' : Hid (lx.length + ly.length + (sev rv).length ≤ (allB (l.take (k + 1))).length) := hLE2
            clear hbd hLE2
            go_wp2_with fail
            refine (cS.out _ _ hrv).mono ?_
            rintro e w1 ⟨p1v, rfl, ho1, hb1⟩
            obtain ⟨ap1, cp1, rfl, _⟩ := Nm.own_shape ho1
            have H1 := Hid.mk' (HT.out.below S hb1)
            have O1 := Hid.mk' ho1
            obtain ⟨z0, z1, z2⟩ := hlat.out _ H1.out.bel
            clear ho1 hb1 q0 q1 q2
            have C2 := Hid.mk' (S.number w1 px Fx lx rv H1.out.x hrv (by have := hbd'.out; simp only [List.length_append]; omega))
            generalize tx rs = f0 at *
            go_wp2_with fail
            refine C2.out.mono ?_
            rintro e w3 ⟨⟨u, rfl⟩, F2, hr2, hk2, hg2⟩
            have O3 : Hid (w3.ownsRow wr.heap.size 5 1 (.slice ap1 (sev rv).length cp1) (sev rv).length ((sev rv).map by1)) := hk2.own O1.out (fun g hg hf => by have := (O1.out.lt g hg).1; have := S.ltW HT.out.x g hf; omega)
            have H3 := Hid.mk' (H1.out.putx S hr2 hk2 hg2)
            clear hr2 hk2 hg2 C2 H1 O1 z0 z1 z2
            go_wp2_with (at_builtin; refine wpList_append_rowP rfl _ _ rfl w.heap.size _ _ _ _ (sev rv) rfl rfl H3.out.oa (own_rd O3.out) (nz_own O3.out) (by have := hbd'.out; omega) H3.out.bel.size ?_; intro v4 w4 ho4 hg4 hp4; have H4 := Hid.mk' (H3.out.appa S (l' := lx ++ (sev rv)) (by rw [List.length_append, List.map_append]; exact ho4) hg4 hp4); obtain ⟨a4, c4, rfl, _⟩ := Nm.own_shape ho4; clear ho4 hg4 hp4 H3 O3)
            obtain ⟨LX, hLX⟩ : ∃ LX, lx ++ (sev rv) = LX := ⟨_, rfl⟩
            rw [hLX] at H4
            have HLX : Hid (LX.length = lx.length + (sev rv).length) := by show _ = _; rw [← hLX, List.length_append]
            clear hLX
            have C5 := Hid.mk' (S.bytes w4 px F2 LX H4.out.x (by have := hbd'.out; have := HLX.out; omega))
            go_wp2_with fail
            refine C5.out.mono ?_
            rintro e w5 ⟨x5, rfl, ho5, hb5⟩
            obtain ⟨hT5, hB5⟩ := H4.out.made S hb5 ho5 (5 + vs.length)
            obtain ⟨a5, c5, rfl, _⟩ := Nm.own_shape ho5
            have hal : Below w5.heap.size w5 (w5.alloc (.cells #[.slice a5 LX.length c5] 22)) := (Below.refl _ _).alloc (Nat.le_refl _) _
            have H6 := Hid.mk' (hT5.below S hal)
            have B6 := Hid.mk' (hB5.below' hal)
            clear ho5 hb5 hT5 hB5 hal C5 H4
            have hnb : Hid ((w5.alloc (.cells #[.slice a5 LX.length c5] 22)).heap[w5.heap.size]? = some (.cells #[.slice a5 LX.length c5] 22)) := heap_alloc_new _ _
            have hsz : Hid ((w5.alloc (.cells #[.slice a5 LX.length c5] 22)).heap.size = w5.heap.size + 1) := by show _ = _; simp
            have hone : Hid (∀ u ∈ [Value.slice a5 LX.length c5], u.oneCell' = true) := by intro u hu; simp at hu; subst hu; rfl
            have hstep : Hid (∀ (w7 : World) (g2 cap2 : Nat), w7.ownsRow w.heap.size 22 1 (.slice (some ⟨g2, 0, none⟩) (vs.length + 1) cap2) (vs.length + 1) (vs ++ [.slice a5 LX.length c5]) → (w5.alloc (.cells #[.slice a5 LX.length c5] 22)).grownBy w7 (Value.slice al vs.length cl).ownBlock → ((Value.slice al vs.length cl).ownBlock = some g2 ∨ g2 = w5.heap.size + 1) → _ ∧ RdB w7 (.slice a5 LX.length c5) LX ∧ w7.cell? ⟨g2, vs.length, none⟩ = some (.slice a5 LX.length c5)) := fun w7 g2 cap2 ho hg hp => ⟨H6.out.appl S B6.out (by omega) ho hg (hp.elim (fun h => .inl h.symm) (fun h => .inr (by rw [hsz.out, ← h]; rfl))), H6.out.kept4 S B6.out (by omega) hg, by have := rows_cell ho (by simp) vs.length (by simp); simpa using this⟩
            go_wp2_with (at_builtin; refine wpList_append_lies _ rfl _ _ 83 rfl w.heap.size 22 j0 (.slice none 0 0) 1 24 Tryd.underlying83 hj hy0 hy1 hy2 rfl (by decide) _ vs.length vs rfl H6.out.ol ⟨w5.heap.size, 0, none⟩ 1 1 [.slice a5 LX.length c5] rfl rfl (World.news_of_block hnb.out) hone.out (by decide) (by unfold maxLen; omega) (by omega) H6.out.bel.size (w5.heap.size + 1) hsz.out ?_; intro g2 cap2 w7 hown7 hgrow hg2 hlt2; obtain ⟨hT7, hR7, hc7⟩ := hstep.out _ _ _ hown7 hgrow hg2; have C8 := Hid.mk' (cB.out _ _ _ _ hR7 (own_rd hT7.oa)); have H7 := Hid.mk' hT7; clear hown7 hgrow hT7 hR7 hstep H6 B6 hnb)
            go_wp2_with fail
            refine C8.out.mono ?_
            rintro e w8 ⟨rfl, hb8⟩
            have H8 := Hid.mk' (H7.out.below S hb8)
            clear hb8 H7 C8 hc7
            go_wp2
            go_roundw
            case rel => exact ⟨k + 1, _, F2, Fy, LX, ly, vs ++ [.slice a5 LX.length c5], _, _, by omega, by simp; omega, by simp; omega, by go_num, H8, (fun j => by have := HLN.out j; have := hbd'.out; have := HLX.out; show (if _ then _ else _) ≤ _; split <;> omega), (by have := hLE'.out; have := HLX.out; show _ ≤ _; (try simp only [List.length_append]); omega)⟩
            case measure => simp [intOf]; omega
          · have hbd' : Hid (lx.length + ly.length + (sev rv).length ≤ 100000000) := hbd
            have hLE' : Hid (lx.length + ly.length + (sev rv).length ≤ (allB (l.take (k + 1))).length) := hLE2
            clear hbd hLE2
            go_wp2_with fail
            refine (cS.out _ _ hrv).mono ?_
            rintro e w1 ⟨p1v, rfl, ho1, hb1⟩
            obtain ⟨ap1, cp1, rfl, _⟩ := Nm.own_shape ho1
            have H1 := Hid.mk' (HT.out.below S hb1)
            have O1 := Hid.mk' ho1
            obtain ⟨z0, z1, z2⟩ := hlat.out _ H1.out.bel
            clear ho1 hb1 q0 q1 q2
            have C2 := Hid.mk' (S.number w1 px Fx lx rv H1.out.x hrv (by have := hbd'.out; simp only [List.length_append]; omega))
            generalize tx rs = f0 at *
            go_wp2_with fail
            refine C2.out.mono ?_
            rintro e w3 ⟨⟨u, rfl⟩, F2, hr2, hk2, hg2⟩
            have O3 : Hid (w3.ownsRow wr.heap.size 5 1 (.slice ap1 (sev rv).length cp1) (sev rv).length ((sev rv).map by1)) := hk2.own O1.out (fun g hg hf => by have := (O1.out.lt g hg).1; have := S.ltW HT.out.x g hf; omega)
            have H3 := Hid.mk' (H1.out.putx S hr2 hk2 hg2)
            clear hr2 hk2 hg2 C2 H1 O1 z0 z1 z2
            go_wp2_with (at_builtin; refine wpList_append_rowP rfl _ _ rfl w.heap.size _ _ _ _ (sev rv) rfl rfl H3.out.oa (own_rd O3.out) (nz_own O3.out) (by have := hbd'.out; omega) H3.out.bel.size ?_; intro v4 w4 ho4 hg4 hp4; have H4 := Hid.mk' (H3.out.appa S (l' := lx ++ (sev rv)) (by rw [List.length_append, List.map_append]; exact ho4) hg4 hp4); obtain ⟨a4, c4, rfl, _⟩ := Nm.own_shape ho4; clear ho4 hg4 hp4 H3 O3)
            go_wp2
            go_roundw
            case rel => exact ⟨k + 1, _, F2, Fy, (lx ++ (sev rv)), ly, vs, ln, f, by omega, by omega, hv20, by go_num, H4, HLN, (by have := hLE'.out; show _ ≤ _; simp only [List.length_append] at this ⊢; omega)⟩
            case measure => simp [intOf]; omega
    · have C1 := Hid.mk' (S.bytes wr px Fx lx HT.out.x (by have := HLE.out; have := allB_le l k; omega))
      go_wp2_with fail
      refine C1.out.mono ?_
      rintro e w1 ⟨x1, rfl, ho1, hb1⟩
      obtain ⟨hT1, hB1⟩ := HT.out.made S hb1 ho1 (5 + vs.length)
      obtain ⟨a1, c1, rfl, _⟩ := Nm.own_shape ho1
      have C2 := Hid.mk' (S.bytes w1 py Fy ly hT1.y (by have := HLE.out; have := allB_le l k; omega))
      clear ho1 hb1 C1
      go_wp2_with fail
      refine C2.out.mono ?_
      rintro e w2 ⟨x2, rfl, ho2, hb2⟩
      obtain ⟨hT2, hB2⟩ := hT1.made S hb2 ho2 (6 + vs.length)
      have hB1' := hB1.below (t2 := 6 + vs.length) hb2
      obtain ⟨a2, c2, rfl, _⟩ := Nm.own_shape ho2
      have hal : Below w2.heap.size w2 (w2.alloc (.cells #[.slice a1 lx.length c1, .slice a2 ly.length c2] 22)) := (Below.refl _ _).alloc (Nat.le_refl _) _
      have H6 := Hid.mk' (hT2.below S hal)
      have B6 := Hid.mk' (hB1'.below' hal)
      have B7 := Hid.mk' (hB2.below' hal)
      clear ho2 hb2 hT1 hB1 hT2 hB2 hB1' hal C2
      have hnb : Hid ((w2.alloc (.cells #[.slice a1 lx.length c1, .slice a2 ly.length c2] 22)).heap[w2.heap.size]? = some (.cells #[.slice a1 lx.length c1, .slice a2 ly.length c2] 22)) := heap_alloc_new _ _
      have hsz : Hid ((w2.alloc (.cells #[.slice a1 lx.length c1, .slice a2 ly.length c2] 22)).heap.size = w2.heap.size + 1) := by show _ = _; simp
      have hone : Hid (∀ u ∈ [Value.slice a1 lx.length c1, .slice a2 ly.length c2], u.oneCell' = true) := by intro u hu; simp at hu; rcases hu with rfl | rfl <;> rfl
      have hstep : Hid (∀ (w7 : World) (g2 cap2 : Nat), w7.ownsRow w.heap.size 22 1 (.slice (some ⟨g2, 0, none⟩) (vs.length + 2) cap2) (vs.length + 2) (vs ++ [.slice a1 lx.length c1, .slice a2 ly.length c2]) → (w2.alloc (.cells #[.slice a1 lx.length c1, .slice a2 ly.length c2] 22)).grownBy w7 (Value.slice al vs.length cl).ownBlock → ((Value.slice al vs.length cl).ownBlock = some g2 ∨ g2 = w2.heap.size + 1) → _ ∧ RdB w7 (.slice a1 lx.length c1) lx ∧ RdB w7 (.slice a2 ly.length c2) ly ∧ (∀ wz, Below w7.heap.size w7 wz → wz.cell? ⟨g2, vs.length, none⟩ = some (.slice a1 lx.length c1) ∧ wz.cell? ⟨g2, vs.length + 1, none⟩ = some (.slice a2 ly.length c2))) := fun w7 g2 cap2 ho hg hp => ⟨H6.out.appl2 S B6.out B7.out (by omega) ho hg (hp.elim (fun h => .inl h.symm) (fun h => .inr (by rw [hsz.out, ← h]; rfl))), H6.out.kept4 S B6.out (by omega) hg, H6.out.kept4 S B7.out (by omega) hg, fun wz hb => by
        have h1 := rows_cell (own_keptB ho hb) (by simp) vs.length (by simp)
        have h2 := rows_cell (own_keptB ho hb) (by simp) (vs.length + 1) (by simp)
        exact ⟨by simpa using h1, by simpa using h2⟩⟩
      have hLN2 : Hid (∀ j, (if j = vs.length then lx.length else if j = vs.length + 1 then ly.length else ln j) < 1000000000) := fun j => by
        have := HLN.out j
        have := HLE.out
        have := allB_le l k
        split
        · omega
        · split <;> omega
      have hbl : Hid (lx.length ≤ 140737488351232 ∧ ly.length ≤ 140737488351232) := ⟨by have := HLE.out; have := allB_le l k; omega, by have := HLE.out; have := allB_le l k; omega⟩
      go_wp2_with (at_builtin; refine wpList_append_lies _ rfl _ _ 83 rfl w.heap.size 22 j0 (.slice none 0 0) 1 24 Tryd.underlying83 hj hy0 hy1 hy2 rfl (by decide) _ vs.length vs rfl H6.out.ol ⟨w2.heap.size, 0, none⟩ 2 2 [.slice a1 lx.length c1, .slice a2 ly.length c2] rfl rfl (World.news_of_block hnb.out) hone.out (by decide) (by unfold maxLen; omega) (by omega) H6.out.bel.size (w2.heap.size + 1) hsz.out ?_; intro g2 cap2 w7 hown7 hgrow hg2 hlt2; obtain ⟨hT7, hR7, hR7', hcz⟩ := hstep.out _ _ _ hown7 hgrow hg2; obtain ⟨hc7, hc7'⟩ := hcz w7 (Below.refl _ _); have HCZ := Hid.mk' hcz; have C8 := Hid.mk' (cB.out _ _ _ _ hR7 (own_rd hT7.oa)); have H7 := Hid.mk' hT7; have R7' := Hid.mk' hR7'; have hcap2 : vs.length + 2 ≤ cap2 ∧ cap2 ≤ 9223372036854775807 := (by obtain ⟨_, _, e, x1, x2, _⟩ := Nm.own_shape hown7; unfold maxLen at x2; simp only [Value.slice.injEq, true_and] at e; omega); clear hown7 hgrow hT7 hR7 hR7' hcz hstep H6 B6 B7 hnb)
      go_wp2_with fail
      refine C8.out.mono ?_
      rintro e w8 ⟨rfl, hb8⟩
      have H8 := Hid.mk' (H7.out.below S hb8)
      obtain ⟨hc8, hc8'⟩ := HCZ.out w8 hb8
      have C9 := Hid.mk' (cB.out _ _ _ _ (R7'.out.below hb8) (own_rd H8.out.ob))
      have hb8' := Hid.mk' hb8
      clear hb8 H7 C8 hc7 hc7' R7'
      go_wp2_with fail
      refine C9.out.mono ?_
      rintro e w9 ⟨rfl, hb9⟩
      have H9 := Hid.mk' (H8.out.below S hb9)
      obtain ⟨hls, hap⟩ := H9.out.lists (L := g2) (cap := cap2) (by rw [List.length_append]; rfl)
      have C10 := Hid.mk' (apartY_l _ _ w.heap.size g2 cap2 _ w9 hls hap (by simp; omega) hLN2.out (by simp; omega) (by unfold maxLen; omega))
      clear hb9 H8 C9 hc8 hc8' hls hap
      rw [List.length_append] at C10
      go_wp2_with fail
      refine C10.out.mono ?_
      rintro e w10 ⟨rfl, hk10, _⟩
      obtain ⟨hx10, hy10, hb10, ha10, hbb10⟩ := H9.out.apart S hk10
      have C11 := Hid.mk' (S.bytes w10 px Fx lx hx10 hbl.out.1)
      have HB10 := Hid.mk' hb10
      have HY := Hid.mk' hy10
      have HA := Hid.mk' ha10
      have HBB := Hid.mk' hbb10
      clear hk10 hx10 hy10 hb10 ha10 hbb10 C10 H9
      go_wp2_with fail
      refine C11.out.mono ?_
      rintro e w11 ⟨x11, rfl, ho11, hb11⟩
      have C12 := Hid.mk' (cB.out _ _ _ _ (own_rd ho11) (own_rd (own_keptB HA.out hb11)))
      obtain ⟨a11, c11, rfl, _⟩ := Nm.own_shape ho11
      have HB11 := Hid.mk' hb11
      clear ho11 hb11 C11
      go_wp2_with fail
      refine C12.out.mono ?_
      rintro e w12 ⟨rfl, hb12⟩
      have hb : Below w10.heap.size w10 w12 := HB11.out.trans (hb12.mono HB11.out.size)
      have C13 := Hid.mk' (S.bytes w12 py Fy ly (S.keepW HY.out (Keep.of_below (F := fun _ => False) hb) (fun _ _ h => h)) hbl.out.2)
      have HB12 := Hid.mk' hb
      clear hb12 hb C12
      go_wp2_with fail
      refine C13.out.mono ?_
      rintro e w13 ⟨x13, rfl, ho13, hb13⟩
      have hb : Below w10.heap.size w10 w13 := HB12.out.trans (hb13.mono HB12.out.size)
      have C14 := Hid.mk' (cB.out _ _ _ _ (own_rd ho13) (own_rd (own_keptB HBB.out hb)))
      obtain ⟨a13, c13, rfl, _⟩ := Nm.own_shape ho13
      have HB13 := Hid.mk' hb
      clear ho13 hb13 hb C13
      go_wp2_with fail
      refine C14.out.mono ?_
      rintro e w14 ⟨rfl, hb14⟩
      have hb : Below w10.heap.size w10 w14 := HB13.out.trans (hb14.mono HB13.out.size)
      have HF14 := Hid.mk' (HB10.out.trans (hb.mono HB10.out.size))
      clear hb14 hb C14
      go_wp2
      go_ret
      exact ⟨rfl, HF14.out⟩

end Pk
end Go.Proofs.YtojejenijhjglaaDoor
