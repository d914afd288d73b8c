import Derived.Test.YtcleeidfiaafcaaGreatDoorTrM
import Derived.Test.YtcleeidfiaafcaaGreatDoorArnA
/- The document's trees: Roots, Kids, Under. -/
namespace Go.Proofs.YtcleeidfiaafcaaGreatDoor
set_option linter.ambiguousOpen false
open Go.RowKit
namespace Tr
open An Rg Ft Lv
set_option linter.unusedSimpArgs false
set_option linter.unusedVariables false

set_option maxRecDepth 100000 in
set_option maxHeartbeats 1000000 in
theorem roots_ref (base : Nat) (w : World) (t g b cap : Nat) (fv : Value) (A : Arn) (last : Int) (h : RTr base w t g (.slice (some ⟨b, 0, none⟩) 32 cap) fv A last) (hl : A.sl.length = 32) (hcc : 32 ≤ cap ∧ cap ≤ 9223372036854775807) :
    Calls Tryz.prog 15 #[ptr t] w fun e w' => ∃ v, e = .returned v ∧ w'.ownsRow w.heap.size 3 1 v (allL A.sl last).length ((allL A.sl last).map nun) ∧ Below w.heap.size w w' := by
  have cA : Hid (Calls Tryz.prog 34 #[ptr g, nu last] w.drew fun e w' => ∃ v, e = .returned v ∧ w'.ownsRow w.heap.size 3 1 v (allL A.sl last).length ((allL A.sl last).map nun) ∧ Below w.heap.size w w') := by
    refine (all_ref base w.drew g b cap fv A last h.drew.ar hl hcc).mono ?_
    rintro e w' ⟨v, rfl, ho, hb⟩
    exact ⟨v, rfl, ho, Below.trans (Below.drew (Below.refl w.heap.size w)) hb⟩
  obtain ⟨L, hL⟩ : ∃ L, allL A.sl last = L := ⟨_, rfl⟩
  rw [hL] at cA ⊢
  obtain ⟨q0, q1, _⟩ := h.cells
  have HS : Hid (∀ wx, Below w.heap.size w wx → wx.cell? ⟨t, 0, none⟩ = some (ptr g) ∧ wx.cell? ⟨t, 1, none⟩ = some (nu last)) := fun wx hb => ⟨(h.below hb).cells.1, (h.below hb).cells.2.1⟩
  have HSD := Hid.mk' (HS.out w.drew (Below.refl _ _).drew)
  clear h hl hcc hL
  go_enter Tryz.func15, Tryz.ntmps15
  go_upto_region 1 with fail
  go_region_held3 (fun w' => w'.cell? ⟨t, 0, none⟩ = some (ptr g) ∧ w'.cell? ⟨t, 1, none⟩ = some (nu last)) (first | assumption | exact HSD.out | exact hs5 | fail) (first | (go_at_call 34; with_reducible refine cA.out.mono ?_; rintro e w5 ⟨v5, rfl, ho5, hb5⟩; obtain ⟨a5, c5, rfl, _⟩ := Nm.own_shape ho5; have hs5 := HS.out w5 hb5) | fail)
  go_wp2
  go_ret
  exact ⟨_, rfl, ho5, hb5⟩

set_option maxRecDepth 100000 in
set_option maxHeartbeats 1000000 in
theorem kids_ref (base : Nat) (w : World) (t g b cap : Nat) (fv : Value) (A : Arn) (last i : Int) (h : RTr base w t g (.slice (some ⟨b, 0, none⟩) 32 cap) fv A last) (hl : A.sl.length = 32) (hcc : 32 ≤ cap ∧ cap ≤ 9223372036854775807) :
    Calls Tryz.prog 19 #[ptr t, nu i] w fun e w' => ∃ v, e = .returned v ∧ w'.ownsRow w.heap.size 3 1 v (kidsL A.sl i).length ((kidsL A.sl i).map nun) ∧ Below w.heap.size w w' := by
  have c1 := Hid.mk' (there_ref i w)
  obtain ⟨hc1, hc2⟩ := id hcc
  by_cases ht : there i
  · rw [decide_eq_true ht] at c1
    have hk : kidsL A.sl i = allL A.sl (at' A.sl i).kids := if_pos ht
    rw [hk]
    obtain ⟨k, rfl⟩ : ∃ k : Nat, i = (k : Int) := ⟨i.toNat, by omega⟩
    have cA : Hid (Calls Tryz.prog 34 #[ptr g, nu (at' A.sl k).kids] w.drew fun e w' => ∃ v, e = .returned v ∧ w'.ownsRow w.heap.size 3 1 v (allL A.sl (at' A.sl k).kids).length ((allL A.sl (at' A.sl k).kids).map nun) ∧ Below w.heap.size w w') := by
      refine (all_ref base w.drew g b cap fv A (at' A.sl k).kids h.drew.ar hl hcc).mono ?_
      rintro e w' ⟨v, rfl, ho, hb⟩
      exact ⟨v, rfl, ho, Below.trans (Below.drew (Below.refl w.heap.size w)) hb⟩
    obtain ⟨L, hL⟩ : ∃ L, allL A.sl (at' A.sl k).kids = L := ⟨_, rfl⟩
    rw [hL] at cA ⊢
    have hkI : (k : Int) < 32 := by omega
    have hk0 : (0 : Int) ≤ (k : Int) := by omega
    have HS : Hid (∀ wx, Below w.heap.size w wx → wx.cell? ⟨t, 0, none⟩ = some (ptr g) ∧ wx.cell? ⟨g, 0, none⟩ = some (.slice (some ⟨b, 0, none⟩) 32 cap) ∧ wx.cell? ⟨b, k * 17 + 2, none⟩ = some (nu (at' A.sl k).kids)) := fun wx hb => ⟨(h.below hb).cells.1, (h.below hb).ar.cells.1, (RAn.read (h.below hb).ar hl k (by omega)).2.1⟩
    have HSD := Hid.mk' (HS.out w.drew (Below.refl _ _).drew)
    obtain ⟨q0, q1, q2⟩ := HS.out w (Below.refl _ _)
    generalize (at' A.sl k).kids = kd at *
    clear h hl hcc hL ht hk
    go_enter Tryz.func19, Tryz.ntmps19
    go_upto_region 3 with (first | (go_at_call 37; refine c1.out.mono ?_; rintro e w1 ⟨rfl, hw1⟩; subst w1) | fail)
    go_region_held3 (fun w' => w'.cell? ⟨t, 0, none⟩ = some (ptr g) ∧ w'.cell? ⟨g, 0, none⟩ = some (.slice (some ⟨b, 0, none⟩) 32 cap) ∧ w'.cell? ⟨b, k * 17 + 2, none⟩ = some (nu kd)) (first | assumption | exact HSD.out | exact hs5 | fail) (first | (go_at_call 34; with_reducible refine cA.out.mono ?_; rintro e w5 ⟨v5, rfl, ho5, hb5⟩; obtain ⟨a5, c5, rfl, _⟩ := Nm.own_shape ho5; have hs5 := HS.out w5 hb5) | fail)
    go_wp2
    go_ret
    exact ⟨_, rfl, ho5, hb5⟩
  · rw [decide_eq_false ht] at c1
    have hk : kidsL A.sl i = [] := if_neg ht
    rw [hk]
    clear h hl ht hk
    go_enter Tryz.func19, Tryz.ntmps19
    go_wp2_with (first | (go_at_call 37; refine c1.out.mono ?_; rintro e w1 ⟨rfl, hw1⟩; subst w1) | fail)
    go_ret
    exact ⟨_, rfl, World.ownsRow_nil _ _ _ _, Below.refl _ _⟩

set_option maxRecDepth 100000 in
set_option maxHeartbeats 1000000 in
theorem has_ref (v : Value) (l : List Nat) (x : Nat) (w : World) (h : RdN w v l) :
    Calls Tryz.prog 64 #[v, nun x] w fun e w' => e = .returned (.bool (decide (x ∈ l))) ∧ w' = w := by
  obtain ⟨r, hr⟩ : ∃ r, decide (x ∈ l) = r := ⟨_, rfl⟩
  rw [hr]
  have HR := Hid.mk' hr
  obtain ⟨a, cap, rfl, h1, h2, h3⟩ := h
  obtain ⟨n, hn⟩ : ∃ n, l.length = n := ⟨_, rfl⟩
  rw [hn] at h1 ⊢
  unfold maxLen at h2
  have HN := Hid.mk' hn
  have H3 := Hid.mk' h3
  have hcI : (cap : Int) ≤ 9223372036854775807 := by omega
  clear hr hn h3
  go_enter Tryz.func64, Tryz.ntmps64
  go_wp2
  go_loopw [5] (fun kv wr => ∃ k : Nat, k ≤ n ∧ kv = nun k ∧ Hid (wr = w ∧ x ∉ l.take k)) (fun kv _ => n - (intOf kv).toNat)
  case atStart => exact ⟨0, Nat.zero_le _, rfl, rfl, by simp⟩
  case round =>
    obtain ⟨k, hk, rfl, HK⟩ := hrel
    have hwr := HK.out.1
    subst hwr
    by_cases hlt : k < n
    · have hkI : (k : Int) < (n : Int) := by omega
      obtain ⟨y, hy⟩ : ∃ y, l[k]? = some y := ⟨_, List.getElem?_eq_getElem (by rw [HN.out]; exact hlt)⟩
      obtain ⟨g, rfl, hgl, hc⟩ := H3.out (by rw [HN.out]; omega)
      have hcy := hc k y hy
      have htk : l.take k ++ [y] = l.take (k + 1) := by
        obtain ⟨h1, rfl⟩ := List.getElem?_eq_some_iff.1 hy
        exact (List.take_succ_eq_append_getElem h1).symm
      by_cases he : y = x
      · have hb : ((y : Int) == (x : Int)) = true := by simp [he]
        have hrt : Hid (r = true) := by
          show _ = _
          rw [← HR.out]
          exact decide_eq_true (he ▸ List.mem_of_getElem? hy)
        clear hc hy htk he
        go_wp2
        go_ret
        exact ⟨by rw [hrt.out]; rfl, rfl⟩
      · have hb : ((y : Int) == (x : Int)) = false := by simp; omega
        have HK2 : Hid (wr = wr ∧ x ∉ l.take (k + 1)) := by
          refine ⟨rfl, ?_⟩
          rw [← htk]
          intro hm
          rcases List.mem_append.1 hm with hm | hm
          · exact HK.out.2 hm
          · simp at hm
            exact he hm.symm
        clear hc hy htk he HK
        go_wp2
        go_roundw
        case rel => exact ⟨k + 1, by omega, by go_num, ⟨by simp, HK2.out.2⟩⟩
        case measure => simp [intOf]; omega
    · have hkI : ¬ (k : Int) < (n : Int) := by omega
      have hrf : Hid (r = false) := by
        show _ = _
        rw [← HR.out]
        have := HK.out.2
        rw [List.take_of_length_le (by rw [HN.out]; omega)] at this
        exact decide_eq_false this
      clear HK
      go_wp2
      go_ret
      exact ⟨by rw [hrf.out]; rfl, rfl⟩

/-- A row of one's own is read, whatever is turned besides. -/
theorem own_len {w : World} {base n : Nat} {v : Value} {l : List Nat} (h : w.ownsRow base 3 1 v n (l.map nun)) : l.length = n := by
  have := h.1
  simpa using this

theorem keep_row {w w2 w3 wr : World} {v v1 : Value} (h12 : Keep (fun k => v.ownBlock = some k) w w2) (pl : ∀ k, v1.ownBlock = some k → v.ownBlock = some k ∨ w.heap.size ≤ k) (h23 : Below w2.heap.size w2 w3) (h3r : Keep (fun k => v1.ownBlock = some k) w3 wr) : Keep (fun k => v.ownBlock = some k) w wr :=
  (h12.trans (Keep.of_below (F := fun _ => False) h23) (fun _ _ e => e.elim)).trans h3r (fun i hi e => (pl i e).resolve_right (by omega))

set_option maxRecDepth 100000 in
set_option maxHeartbeats 4000000 in
theorem under_ref (base t g b cap : Nat) (fv : Value) (A : Arn) (last : Int) (hl : A.sl.length = 32) (hcc : 32 ≤ cap ∧ cap ≤ 9223372036854775807) (B : Nat) :
    ∀ (f x : Nat) (out : List Nat) (w : World) (v : Value), RTr base w t g (.slice (some ⟨b, 0, none⟩) 32 cap) fv A last → x < 32 → out.Nodup → (∀ y ∈ out, y < 32) → 33 ≤ f + out.length → B ≤ w.heap.size → w.ownsRow B 3 1 v out.length (out.map nun) → (∀ k, v.ownBlock = some k → ¬ tfp t g (.slice (some ⟨b, 0, none⟩) 32 cap) fv k) →
      Calls Tryz.prog 38 #[ptr t, nun x, v] w fun e w' => ∃ v', e = .returned v' ∧ w'.ownsRow B 3 1 v' (und f A.sl x out).length ((und f A.sl x out).map nun) ∧ Keep (fun k => v.ownBlock = some k) w w' ∧ ∀ k, v'.ownBlock = some k → v.ownBlock = some k ∨ w.heap.size ≤ k
  | 0, x, out, w, v, _, _, h3, h4, h5, _, _, _ => by
    have := nodup_few 32 out h3 h4
    omega
  | f + 1, x, out, w, v, h1, h2, h3, h4, h5, h6, h7, h8 => by
    obtain ⟨i0, ji, hz0, hz1, hz2⟩ := info_parts info_int
    have IH : Hid (∀ (x : Nat) (out : List Nat) (w : World) (v : Value), RTr base w t g (.slice (some ⟨b, 0, none⟩) 32 cap) fv A last → x < 32 → out.Nodup → (∀ y ∈ out, y < 32) → 33 ≤ f + out.length → B ≤ w.heap.size → w.ownsRow B 3 1 v out.length (out.map nun) → (∀ k, v.ownBlock = some k → ¬ tfp t g (.slice (some ⟨b, 0, none⟩) 32 cap) fv k) → _) := under_ref base t g b cap fv A last hl hcc B f
    have cH := Hid.mk' (has_ref v out x w (own_rdN h7))
    obtain ⟨a, c, rfl, hac, hcm, _⟩ := Nm.own_shape h7
    have hfew := nodup_few 32 out h3 h4
    by_cases hm : x ∈ out
    · rw [decide_eq_true hm] at cH
      have hu : und (f + 1) A.sl x out = out := by unfold und; rw [if_pos hm]
      rw [hu]
      have H7 := Hid.mk' h7
      clear h1 h3 h4 h5 h7 h8 hm hu IH
      go_enter Tryz.func38, Tryz.ntmps38
      go_wp2_with (first | (go_at_call 64; refine cH.out.mono ?_; rintro e w1 ⟨rfl, hw1⟩; subst w1) | fail)
      go_ret
      exact ⟨_, rfl, H7.out, Keep.refl _ _, fun k hk => .inl hk⟩
    · rw [decide_eq_false hm] at cH
      have hu : und (f + 1) A.sl x out = (kidsL A.sl x).foldl (fun o k => und f A.sl k o) (out ++ [x]) := by
        conv => lhs; unfold und
        rw [if_neg hm]
      rw [hu]
      have hnd1 : (out ++ [x]).Nodup := List.nodup_append.2 ⟨h3, by simp, fun y hy z hz e => hm (by simp at hz; subst hz; exact e ▸ hy)⟩
      have hlt1 : ∀ y ∈ out ++ [x], y < 32 := fun y hy => by
        rcases List.mem_append.1 hy with hy | hy
        · exact h4 y hy
        · simp at hy
          omega
      have HND := Hid.mk' hnd1
      have HLT := Hid.mk' hlt1
      have h51 : 33 ≤ f + (out ++ [x]).length := by simp; omega
      have H5 := Hid.mk' h51
      obtain ⟨n, hn⟩ : ∃ n, out.length = n := ⟨_, rfl⟩
      rw [hn] at h7 hac hfew cH h8 ⊢
      have HN := Hid.mk' hn
      have H1 := Hid.mk' h1
      have H8 := Hid.mk' h8
      have HO1 : Hid ((w.alloc (.cells #[nun x] 3)).ownsRow B 3 1 (.slice a n c) n (out.map nun)) := h7.alloc _
      have cK : Hid (∀ wx, RTr base wx t g (.slice (some ⟨b, 0, none⟩) 32 cap) fv A last → Calls Tryz.prog 19 #[ptr t, nun x] wx fun e w' => ∃ v, e = .returned v ∧ w'.ownsRow wx.heap.size 3 1 v (kidsL A.sl x).length ((kidsL A.sl x).map nun) ∧ Below wx.heap.size wx w') := fun wx hx => kids_ref base wx t g b cap fv A last x hx hl hcc
      obtain ⟨L, hL⟩ : ∃ L, kidsL A.sl x = L := ⟨_, rfl⟩
      have hLin : Hid (∀ y ∈ L, y < 32) := by rw [← hL]; exact kidsL_in A.sl x
      have hLl : L.length ≤ 32 := by
        rw [← hL]
        unfold kidsL
        split
        · exact allL_len _ _
        · simp
      rw [hL] at cK ⊢
      obtain ⟨N, hN⟩ : ∃ N, L.length = N := ⟨_, rfl⟩
      rw [hN] at cK hLl
      have HNN := Hid.mk' hN
      obtain ⟨Z, hZ⟩ : ∃ Z, L.foldl (fun o k => und f A.sl k o) (out ++ [x]) = Z := ⟨_, rfl⟩
      rw [hZ]
      have HZ : Hid ((L.drop 0).foldl (fun o k => und f A.sl k o) (out ++ [x]) = Z) := hZ
      clear hZ
      have hBa : Below w.heap.size w (w.alloc (.cells #[nun x] 3)) := (Below.refl _ _).alloc (Nat.le_refl _) _
      have HBA := Hid.mk' hBa
      unfold maxLen at hcm
      clear h1 h3 h4 h5 h7 h8 hm hu hnd1 hlt1 h51 hn hL hN hBa
      go_enter Tryz.func38, Tryz.ntmps38
      go_wp2_with (first | (go_at_call 64; refine cH.out.mono ?_; rintro e w1 ⟨rfl, hw1⟩; subst w1) | (at_builtin; refine Nm.wpList_append_keep _ rfl _ _ 50 rfl B 3 i0 (.int .i64 0) 1 8 Tryz.underlying50 ji hz0 hz1 hz2 rfl (by decide) _ n _ rfl HO1.out ⟨w.heap.size, 0, none⟩ 1 1 [nun x] rfl rfl (cell_one_new _ _ _) (by simp [Value.oneCell']) (by unfold maxLen; omega) (by omega) (by simp; omega) (by decide) ?_; intro v2 w2 hg2; obtain ⟨ho2, hgr2, _, hp2⟩ := hg2; obtain ⟨a2, c2, rfl, _⟩ := Nm.own_shape ho2; have HO2 := Hid.mk' ho2; have HK2 : Hid (Keep (fun k => (Value.slice a n c).ownBlock = some k) w w2) := ((Keep.of_below HBA.out).grown hgr2 (fun k e => .inl e)); have HP2 : Hid (∀ k, (Value.slice a2 (n + 1) c2).ownBlock = some k → (Value.slice a n c).ownBlock = some k ∨ w.heap.size ≤ k) := (fun k hk => by rcases hp2 with e | ⟨b', e, hb'⟩; exact .inl (e.symm.trans hk); exact .inr (by have e2 := Option.some.inj (hk.symm.trans e); have := HBA.out.size; omega)); clear ho2 hgr2 hp2) | fail)
      have HT2 : Hid (RTr base w2 t g (.slice (some ⟨b, 0, none⟩) 32 cap) fv A last) := H1.out.keep HK2.out (fun k hk e => H8.out k e hk)
      refine (cK.out _ HT2.out).mono ?_
      rintro e w3 ⟨vl, rfl, hol, hb3⟩
      obtain ⟨al, cl, rfl, hlc, hlm, _⟩ := Nm.own_shape hol
      have HOL := Hid.mk' hol
      have HB3 := Hid.mk' hb3
      have HSL : Hid (∀ k, (Value.slice al N cl).ownBlock = some k → w2.heap.size ≤ k ∧ k < w3.heap.size) := fun k hk => hol.lt k hk
      have HO3 : Hid (w3.ownsRow B 3 1 (.slice a2 (n + 1) c2) (n + 1) ((out ++ [x]).map nun)) := by
        have := (Keep.of_below (F := fun _ => False) hb3).own HO2.out (fun _ _ h => h)
        rw [List.map_append]
        exact this
      have HS2 : Hid (∀ k, (Value.slice a2 (n + 1) c2).ownBlock = some k → k < w2.heap.size) := fun k hk => (HO2.out.lt k hk).2
      have HLN : Hid ((out ++ [x]).length = n + 1) := by show _ = _; rw [List.length_append, HN.out]; rfl
      have hs23 := hb3.size
      unfold maxLen at hlm
      clear hol hb3 cK HO2 cH HO1
      go_wp2
      go_loopw [2, 8] (fun ov kv wr => ∃ (k m : Nat) (ak : Option Addr) (ck : Nat) (o : List Nat), k ≤ N ∧ ov = .slice ak m ck ∧ kv = nun k ∧ Hid (o.length = m ∧ (L.drop k).foldl (fun o k => und f A.sl k o) o = Z ∧ o.Nodup ∧ (∀ y ∈ o, y < 32) ∧ 33 ≤ f + o.length) ∧ Hid (wr.ownsRow B 3 1 (.slice ak m ck) m (o.map nun)) ∧ Hid (Keep (fun j => (Value.slice a2 (n + 1) c2).ownBlock = some j) w3 wr) ∧ Hid (∀ j, (Value.slice ak m ck).ownBlock = some j → (Value.slice a2 (n + 1) c2).ownBlock = some j ∨ w3.heap.size ≤ j)) (fun _ kv _ => N - (intOf kv).toNat)
      case atStart => exact ⟨0, n + 1, a2, c2, out ++ [x], Nat.zero_le _, rfl, rfl, ⟨HLN.out, HZ.out, HND.out, HLT.out, H5.out⟩, HO3, Keep.refl _ _, fun j hj => .inl hj⟩
      case round =>
        clear HLN HZ HND HLT H5 HO3
        obtain ⟨k, m, ak, ck, o, hk, rfl, rfl, HI, HO, HKP, HPL⟩ := hrel
        have HT : Hid (RTr base wr t g (.slice (some ⟨b, 0, none⟩) 32 cap) fv A last) := H1.out.keep (keep_row HK2.out HP2.out HB3.out HKP.out) (fun k hk e => H8.out k e hk)
        by_cases hlt : k < N
        · have hkI : (k : Int) < (N : Int) := by omega
          obtain ⟨y, hy⟩ : ∃ y, L[k]? = some y := ⟨_, List.getElem?_eq_getElem (by rw [HNN.out]; exact hlt)⟩
          have hdr : L.drop k = y :: L.drop (k + 1) := by
            obtain ⟨q1, q2⟩ := List.getElem?_eq_some_iff.1 hy
            rw [List.drop_eq_getElem_cons q1, q2]
          have HL2 : Hid (wr.ownsRow w2.heap.size 3 1 (.slice al N cl) N (L.map nun)) := HKP.out.own HOL.out (fun j hj e => by
            have h1 := (HSL.out j hj).1
            have h2 := HS2.out j e
            omega)
          obtain ⟨gl, hgl⟩ : ∃ gl, al = some ⟨gl, 0, none⟩ := by
            obtain ⟨a', c', e, _, _, h9⟩ := Nm.own_shape HL2.out
            simp only [Value.slice.injEq, true_and] at e
            obtain ⟨rfl, rfl⟩ := e
            exact h9 (by omega)
          subst hgl
          have hcy : wr.cell? ⟨gl, k, none⟩ = some (nun y) := by
            have := HL2.out.cellAt (g := gl) (cap := cl) k (by omega)
            rw [this, List.getElem?_map, hy]
            rfl
          obtain ⟨i1, i2, i3, i4, i5⟩ := HI.out
          have hy32 := hLin.out y (List.mem_of_getElem? hy)
          have C := Hid.mk' (IH.out y o wr (.slice ak m ck) HT.out hy32 i3 i4 i5 (by have := HKP.out.size; have := HK2.out.size; omega) (by rw [i1]; exact HO.out) (fun j hj q => by
            have h1 := HPL.out j hj
            rcases h1 with h1 | h1
            · rcases HP2.out j h1 with h3 | h3
              · exact H8.out j h3 q
              · have h4 : j < w.heap.size := by
                  rcases q with q | q
                  · rw [q]; exact H1.out.tlt
                  · exact (H1.out.ar.lt j q).2
                omega
            · have h4 : j < w.heap.size := by
                rcases q with q | q
                · rw [q]; exact H1.out.tlt
                · exact (H1.out.ar.lt j q).2
              have := HK2.out.size
              omega))
          have hok := und_ok A.sl f y o hy32 i3 i4
          obtain ⟨o2, ho2⟩ : ∃ o2, und f A.sl y o = o2 := ⟨_, rfl⟩
          rw [ho2] at C hok
          obtain ⟨m2, hm2⟩ : ∃ m2, o2.length = m2 := ⟨_, rfl⟩
          rw [hm2] at C
          have HI2 : Hid (o2.length = m2 ∧ (L.drop (k + 1)).foldl (fun o k => und f A.sl k o) o2 = Z ∧ o2.Nodup ∧ (∀ y ∈ o2, y < 32) ∧ 33 ≤ f + o2.length) := by
            refine ⟨hm2, ?_, hok.1, hok.2.1, by have := hok.2.2.length_le; omega⟩
            rw [← i2, hdr, List.foldl_cons, ho2]
          clear hy hdr i1 i2 i3 i4 i5 hok ho2 hm2 HI
          go_wp2_with fail
          refine C.out.mono ?_
          rintro e w4 ⟨v4, rfl, ho4, hk4, hp4⟩
          obtain ⟨a4, c4, rfl, _⟩ := Nm.own_shape ho4
          have HO4 := Hid.mk' ho4
          have HKP4 : Hid (Keep (fun j => (Value.slice a2 (n + 1) c2).ownBlock = some j) w3 w4) := HKP.out.trans hk4 (fun j hj e => (HPL.out j e).resolve_right (by omega))
          have HPL4 : Hid (∀ j, (Value.slice a4 m2 c4).ownBlock = some j → (Value.slice a2 (n + 1) c2).ownBlock = some j ∨ w3.heap.size ≤ j) := fun j hj => by
            rcases hp4 j hj with h1 | h1
            · exact HPL.out j h1
            · have := HKP.out.size
              exact .inr (by omega)
          clear ho4 hk4 hp4 C hcy HKP HPL HO HT HL2
          go_wp2
          go_roundw
          case rel => exact ⟨k + 1, m2, a4, c4, o2, by omega, rfl, by go_num, HI2, HO4, HKP4, HPL4⟩
          case measure => simp [intOf]; omega
        · have hkI : ¬ (k : Int) < (N : Int) := by omega
          obtain ⟨i1, i2, _, _, _⟩ := HI.out
          have hoZ : o = Z := by
            rw [List.drop_eq_nil_of_le (by rw [HNN.out]; omega)] at i2
            exact i2
          have HOZ := Hid.mk' hoZ
          have HM := Hid.mk' i1
          clear i1 i2 hoZ HI
          go_wp2
          go_ret
          refine ⟨_, rfl, ?_, keep_row HK2.out HP2.out HB3.out HKP.out, fun j hj => ?_⟩
          · rw [← HOZ.out, HM.out]
            exact HO.out
          · rcases HPL.out j hj with h1 | h1
            · exact HP2.out j h1
            · have := HK2.out.size
              exact .inr (by omega)

set_option maxRecDepth 100000 in
theorem underT_ref (base : Nat) (w : World) (t g b cap : Nat) (fv : Value) (A : Arn) (last i : Int) (h : RTr base w t g (.slice (some ⟨b, 0, none⟩) 32 cap) fv A last) (hl : A.sl.length = 32) (hcc : 32 ≤ cap ∧ cap ≤ 9223372036854775807) :
    Calls Tryz.prog 17 #[ptr t, nu i] w fun e w' => ∃ v, e = .returned v ∧ w'.ownsRow w.heap.size 3 1 v (undL A.sl i).length ((undL A.sl i).map nun) ∧ Below w.heap.size w w' := by
  have c1 := Hid.mk' (there_ref i w)
  by_cases ht : there i
  · rw [decide_eq_true ht] at c1
    have hk : undL A.sl i = und 33 A.sl i.toNat [] := if_pos ht
    rw [hk]
    obtain ⟨k, rfl⟩ : ∃ k : Nat, i = (k : Int) := ⟨i.toNat, by omega⟩
    rw [Int.toNat_natCast]
    have c2 := Hid.mk' (under_ref base t g b cap fv A last hl hcc w.heap.size 33 k [] w (.slice none 0 0) h (by omega) List.nodup_nil (by simp) (by simp) (Nat.le_refl _) (World.ownsRow_nil _ _ _ _) (fun j hj => by cases hj))
    generalize und 33 A.sl k [] = Z at *
    clear h hl ht hk
    go_enter Tryz.func17, Tryz.ntmps17
    go_wp2_with (first | (go_at_call 37; refine c1.out.mono ?_; rintro e w1 ⟨rfl, hw1⟩; subst w1) | fail)
    refine c2.out.mono ?_
    rintro e w2 ⟨v, rfl, ho, hk2, _⟩
    obtain ⟨a, c, rfl, _⟩ := Nm.own_shape ho
    have HO := Hid.mk' ho
    have HB : Hid (Below w.heap.size w w2) := hk2.below (fun j _ hj => by cases hj) (Nat.le_refl _)
    clear ho hk2
    go_wp2
    go_ret
    exact ⟨_, rfl, HO.out, HB.out⟩
  · rw [decide_eq_false ht] at c1
    have hk : undL A.sl i = [] := if_neg ht
    rw [hk]
    clear h hl ht hk
    go_enter Tryz.func17, Tryz.ntmps17
    go_wp2_with (first | (go_at_call 37; refine c1.out.mono ?_; rintro e w1 ⟨rfl, hw1⟩; subst w1) | fail)
    go_ret
    exact ⟨_, rfl, World.ownsRow_nil _ _ _ _, Below.refl _ _⟩
end Tr
end Go.Proofs.YtcleeidfiaafcaaGreatDoor
