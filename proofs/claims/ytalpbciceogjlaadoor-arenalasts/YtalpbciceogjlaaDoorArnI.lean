/- The program's arena: Place (slices.DeleteFunc with a closure), Free. -/
import Derived.Test.YtalpbciceogjlaaDoorArnH
import Derived.Lib.SliceRun
namespace Go.Proofs.YtalpbciceogjlaaDoor
set_option linter.ambiguousOpen false
open Go.RowKit
namespace An
open Ft Lv
set_option linter.unusedSimpArgs false
set_option linter.unusedVariables false

theorem same_any (x k b : Nat) (w : World) (h : w.cell? ⟨b, 0, none⟩ = some (nun k)) : Calls Tryd.prog 38 #[nun x, ptr b] w fun e w' => e = .returned (.bool ((x : Int) == (k : Int))) ∧ w' = w := by
  go_enter Tryd.func38, Tryd.ntmps38
  go_wp2
  go_ret
  exact ⟨rfl, rfl⟩

/-- A number of a row of one's own. -/
theorem own_at {w : World} {base n b cap : Nat} {l : List Nat} (h : w.ownsRow base 3 1 (.slice (some ⟨b, 0, none⟩) n cap) n (l.map nun)) (j x : Nat) (hx : l[j]? = some x) : w.cell? ⟨b, j, none⟩ = some (nun x) ∧ w.frozen? ⟨b, j, none⟩ = false := by
  have hl := h.1
  rw [List.length_map, Nat.mul_one] at hl
  have hj := (List.getElem?_eq_some_iff.1 hx).1
  obtain ⟨⟨u, h1, h2⟩, h3⟩ := Nm.own_cell h j (by omega)
  rw [List.getElem?_map, hx] at h1
  cases h1
  exact ⟨h2, h3⟩

set_option maxRecDepth 100000 in
set_option maxHeartbeats 1000000 in
theorem index_any (R : List Nat) (n cap b k c : Nat) (w : World) (hR : w.ownsRow 0 3 1 (.slice (some ⟨b, 0, none⟩) n cap) n (R.map nun)) (hn : n ≤ 32) (hk : w.cell? ⟨c, 0, none⟩ = some (nun k)) (hin : k ∈ R) :
    Calls Tryd.prog 46 #[.slice (some ⟨b, 0, none⟩) n cap, .func (.func 38) #[] #[ptr c]] w fun e w' => e = .returned (nun (R.idxOf k)) ∧ w' = w := by
  have hl := hR.1
  rw [List.length_map, Nat.mul_one] at hl
  have HLN := Hid.mk' hl
  have HR := Hid.mk' hR
  have HIN := Hid.mk' hin
  obtain ⟨r, hr⟩ : ∃ r, R.idxOf k = r := ⟨_, rfl⟩
  have HRR := Hid.mk' hr
  rw [hr]
  obtain ⟨a0, c0, hsh, hc1, hc2, _⟩ := Nm.own_shape hR
  simp only [Value.slice.injEq, true_and] at hsh
  obtain ⟨rfl, rfl⟩ := hsh
  unfold maxLen at hc2
  have hnI : (n : Int) ≤ 32 := by omega
  clear hl hR hin hr
  go_enter Tryd.func46, Tryd.ntmps46
  go_wp2
  go_loopw [8] (fun kv wr => ∃ j : Nat, j ≤ n ∧ kv = nun j ∧ wr = w ∧ Hid (∀ i, i < j → R[i]? ≠ some k)) (fun kv _ => n - (intOf kv).toNat)
  case atStart => exact ⟨0, Nat.zero_le _, rfl, rfl, fun j hj => by omega⟩
  case round =>
    obtain ⟨j, hj, rfl, rfl, hne⟩ := hrel
    by_cases hlt : j < n
    · obtain ⟨x, hx⟩ : ∃ x, R[j]? = some x := ⟨_, List.getElem?_eq_getElem (by rw [HLN.out]; exact hlt)⟩
      obtain ⟨hc, _⟩ := own_at HR.out j x hx
      have hjI : (j : Int) < (n : Int) := by omega
      have cS := Hid.mk' (same_any x k c wr hk)
      by_cases he : x = k
      · subst he
        have HP : Hid (r = j) := by
          show _ = _
          rw [← HRR.out, idx_first R x j (by rw [HLN.out]; exact hlt) hx hne.out]
        have hee : ((x : Int) == (x : Int)) = true := by simp
        rw [hee] at cS
        clear hx hne hk hee
        go_wp2_with fail
        refine cS.out.mono ?_
        rintro e w1 ⟨rfl, hw1⟩
        subst w1
        go_wp2
        go_ret
        exact ⟨by rw [HP.out]; rfl, rfl⟩
      · have hee : ((x : Int) == (k : Int)) = false := by simp; omega
        rw [hee] at cS
        have HN2 : Hid (∀ i, i < j + 1 → R[i]? ≠ some k) := fun i hi e => by
          rcases Nat.lt_or_ge i j with h1 | h1
          · exact hne.out i h1 e
          · obtain rfl : i = j := by omega
            rw [hx] at e
            exact he (Option.some.inj e)
        clear hx hne he hk hee
        go_wp2_with fail
        refine cS.out.mono ?_
        rintro e w1 ⟨rfl, hw1⟩
        subst w1
        go_wp2
        go_roundw
        case rel => exact ⟨j + 1, by omega, by go_num, trivial, HN2⟩
        case measure => simp [intOf]; omega
    · exfalso
      obtain ⟨i, hi⟩ := List.getElem?_of_mem HIN.out
      have hil := (List.getElem?_eq_some_iff.1 hi).1
      exact hne.out i (by have := HLN.out; omega) hi

/-! ### One is taken out -/

/-- The row amid it: i of the new one are laid. -/
def amid (R : List Nat) (m i : Nat) : List Nat := (R.eraseIdx m).take i ++ R.drop i

theorem erase_len (R : List Nat) (m : Nat) (h : m < R.length) : (R.eraseIdx m).length = R.length - 1 := List.length_eraseIdx_of_lt h

theorem amid_start (R : List Nat) (m : Nat) (h : m < R.length) : amid R m m = R := by
  unfold amid
  rw [List.eraseIdx_eq_take_drop_succ, List.take_append_of_le_length (by rw [List.length_take]; omega), List.take_of_length_le (by rw [List.length_take]; omega), List.take_append_drop]

theorem amid_next (R : List Nat) (m i : Nat) (h : i < R.length) : (amid R m i)[i + 1]? = R[i + 1]? := by
  rcases Nat.lt_or_ge m R.length with hm | hm
  · have := erase_len R m hm
    unfold amid
    have hl : ((R.eraseIdx m).take i).length = i := by rw [List.length_take]; omega
    rw [List.getElem?_append_right (by omega), hl, List.getElem?_drop]
    congr 1
    omega
  · unfold amid
    rw [List.eraseIdx_of_length_le hm, List.take_append_drop]

theorem amid_set (R : List Nat) (m i x : Nat) (hm : m ≤ i) (h : R[i + 1]? = some x) : (amid R m i).set i x = amid R m (i + 1) := by
  have hi := (List.getElem?_eq_some_iff.1 h).1
  have he := erase_len R m (by omega)
  have hl : ((R.eraseIdx m).take i).length = i := by rw [List.length_take]; omega
  unfold amid
  rw [List.set_append_right _ _ (by omega), hl, Nat.sub_self]
  have h1 : (R.eraseIdx m)[i]? = some x := by
    rw [List.getElem?_eraseIdx, if_neg (by omega)]
    exact h
  obtain ⟨h2, h3⟩ := List.getElem?_eq_some_iff.1 h1
  rw [List.take_succ_eq_append_getElem h2, h3, List.append_assoc]
  congr 1
  rw [List.drop_eq_getElem_cons (by omega)]
  rfl

theorem amid_end (R : List Nat) (m q : Nat) (hm : m < R.length) (hq : R.length = q + 1) (z : Nat) : ((amid R m q).set q z).take q = R.eraseIdx m := by
  have he := erase_len R m hm
  unfold amid
  have hl : ((R.eraseIdx m).take q).length = q := by rw [List.length_take]; omega
  rw [List.set_append_right _ _ (by omega), List.take_append_of_le_length (by omega), List.take_take, Nat.min_self, List.take_of_length_le (by omega)]

theorem slice_fromI (b len cap k : Nat) (h : k < cap) (hl : k ≤ len) (hc : len ≤ cap) (w : World) : (Instr.slice 44 (.slice (some ⟨b, 0, none⟩) len cap) (some (.int .i64 (k : Int))) none none).run Tryd.prog w = .ok (.slice (some ⟨b, k, none⟩) (len - k) (cap - k)) w := by
  have h1 : (0 : Int) ≤ (k : Int) ∧ (k : Int) ≤ (cap : Int) := by omega
  have hu := Tryd.underlying44
  simp [Instr.slice, Instr.sliceBounds, Instr.sliceBound, asIntOf, run_underlying hu, Addr.add]
  rw [if_pos hl, if_neg (by omega)]
  by_cases h0 : k = 0
  · subst h0
    rfl
  · rw [if_neg h0]

set_option maxRecDepth 100000 in
set_option maxHeartbeats 1000000 in
theorem delete_any (R : List Nat) (n q cap b k c : Nat) (w : World) (hR : w.ownsRow 0 3 1 (.slice (some ⟨b, 0, none⟩) n cap) n (R.map nun)) (hq : n = q + 1) (hn : n ≤ 32) (hk : w.cell? ⟨c, 0, none⟩ = some (nun k)) (hcb : c ≠ b) (hin : k ∈ R) (hnd : R.Nodup) :
    Calls Tryd.prog 37 #[.slice (some ⟨b, 0, none⟩) n cap, .func (.func 38) #[] #[ptr c]] w fun e w' => e = .returned (.slice (some ⟨b, 0, none⟩) q cap) ∧ w'.ownsRow 0 3 1 (.slice (some ⟨b, 0, none⟩) q cap) q ((R.erase k).map nun) ∧ Keep (fun j => j = b) w w' := by
  have hl := hR.1
  rw [List.length_map, Nat.mul_one] at hl
  have c1 := Hid.mk' (index_any R n cap b k c w hR hn hk hin)
  have hm := List.idxOf_lt_length_of_mem hin
  have hmk : R[R.idxOf k]? = some k := by rw [List.getElem?_eq_getElem hm]; simp
  have hE := erase_idx k R
  obtain ⟨m, hmm⟩ : ∃ m, R.idxOf k = m := ⟨_, rfl⟩
  rw [hmm] at c1 hm hmk hE
  rw [← hE]
  have HLN := Hid.mk' hl
  have HQ := Hid.mk' hq
  obtain ⟨a0, c0, hsh, hc1, hc2, _⟩ := Nm.own_shape hR
  simp only [Value.slice.injEq, true_and] at hsh
  obtain ⟨rfl, rfl⟩ := hsh
  unfold maxLen at hc2
  have hnI : (n : Int) ≤ 32 := by omega
  have hmn : m < n := by omega
  have hclt : c < w.heap.size := by
    obtain ⟨ob, h, _⟩ := cells_of_cell hk
    exact (Array.getElem?_eq_some_iff.1 h).1
  have HCK : Hid (∀ wr, Keep (fun j => j = b) w wr → wr.cell? ⟨c, 0, none⟩ = some (nun k)) := fun wr h => (h.cell (p := ⟨c, 0, none⟩) hclt hcb).trans hk
  have HM0 : Hid (w.ownsRow 0 3 1 (.slice (some ⟨b, 0, none⟩) n cap) n ((amid R m m).map nun)) := by show World.ownsRow _ _ _ _ _ _ _; rw [amid_start R m hm]; exact hR
  have HU : Hid (∀ j x, m < j → R[j]? = some x → x ≠ k) := fun j x hj hx e => by
    subst e
    have hjl := (List.getElem?_eq_some_iff.1 hx).1
    have h3 : R[m] = R[j] := by
      have e1 := (List.getElem?_eq_some_iff.1 hmk).2
      have e2 := (List.getElem?_eq_some_iff.1 hx).2
      rw [e1, e2]
    exact List.pairwise_iff_getElem.1 hnd m j hm hjl hj h3
  have HM := Hid.mk' hm
  have hm1 : ((m : Int) == -1) = false := by simp
  clear hl hR hin hmm hm hmk hE hnd hk hq
  go_enter Tryd.func37, Tryd.ntmps37
  go_wp2_with fail
  refine c1.out.mono ?_
  rintro e w1 ⟨rfl, hw1⟩
  subst w1
  go_wp2_with fail
  clear c1
  go_loopw [5, 6] (fun iv jv wr => ∃ i j : Nat, m ≤ i ∧ i < j ∧ j ≤ n ∧ iv = nun i ∧ jv = nun j ∧ Hid (j = i + 1) ∧ Hid (wr.ownsRow 0 3 1 (.slice (some ⟨b, 0, none⟩) n cap) n ((amid R m i).map nun)) ∧ Hid (Keep (fun j => j = b) w wr)) (fun _ jv _ => n - (intOf jv).toNat)
  case atStart => exact ⟨m, m + 1, Nat.le_refl _, by omega, by omega, rfl, by go_num, rfl, HM0, Keep.refl _ _⟩
  case round =>
    obtain ⟨i, j, hmi, hij, hjn, rfl, rfl, HJ, HO, HK⟩ := hrel
    by_cases hlt : j < n
    · have hji := HJ.out
      obtain ⟨x, hx⟩ : ∃ x, R[i + 1]? = some x := ⟨_, List.getElem?_eq_getElem (by rw [HLN.out]; omega)⟩
      obtain ⟨y, hy⟩ : ∃ y, (amid R m i)[i]? = some y := by
        have he := erase_len R m HM.out
        have hln := HLN.out
        refine ⟨_, List.getElem?_eq_getElem ?_⟩
        unfold amid
        rw [List.length_append, List.length_take, List.length_drop]
        omega
      obtain ⟨hc, _⟩ := own_at HO.out (i + 1) x (by rw [amid_next R m i (by rw [HLN.out]; omega)]; exact hx)
      obtain ⟨hci, hfi⟩ := own_at HO.out i y hy
      rw [← hji] at hc
      have cS := Hid.mk' (same_any x k c wr (HCK.out wr HK.out))
      have hee : ((x : Int) == (k : Int)) = false := by
        have := HU.out (i + 1) x (by omega) hx
        simp
        omega
      rw [hee] at cS
      have HO2 : Hid ((wr.setCell ⟨b, i, none⟩ (nun x)).ownsRow 0 3 1 (.slice (some ⟨b, 0, none⟩) n cap) n ((amid R m (i + 1)).map nun)) := by
        have := Nm.own_set HO.out i (nun x)
        rw [← List.map_set, amid_set R m i x hmi hx] at this
        exact this
      have HK2 : Hid (Keep (fun j => j = b) w (wr.setCell ⟨b, i, none⟩ (nun x))) := HK.out.setCell (p := ⟨b, i, none⟩) (.inl rfl) _
      have hjI : (j : Int) < (n : Int) := by omega
      have hiI : (i : Int) < (n : Int) := by omega
      clear hx hy hee hji HK HO
      go_wp2_with fail
      refine cS.out.mono ?_
      rintro e w1 ⟨rfl, hw1⟩
      subst w1
      go_wp2
      go_roundw
      case rel => exact ⟨i + 1, j + 1, by omega, by omega, by omega, by go_num, by go_num, by have := HJ.out; show _ = _; omega, HO2, HK2⟩
      case measure => simp [intOf]; omega
    · have hji := HJ.out
      have hiq : i = q := by have := HQ.out; omega
      subst hiq
      have he := erase_len R m HM.out
      obtain ⟨y, hy⟩ : ∃ y, (amid R m i)[i]? = some y := by
        have hln := HLN.out
        refine ⟨_, List.getElem?_eq_getElem ?_⟩
        unfold amid
        rw [List.length_append, List.length_take, List.length_drop]
        omega
      obtain ⟨hci, hfi⟩ := own_at HO.out i y hy
      have hni : n - i = 1 := by omega
      have hsf := slice_fromI b n cap i (by omega) (by omega) hc1
      rw [hni] at hsf
      have hcl : ∀ ty, (Builtin.clear_ #[44] ty #[.slice (some ⟨b, i, none⟩) 1 (cap - i)]).run Tryd.prog wr = .ok (.tuple #[]) (wr.setCells b i [nu 0]) := fun ty =>
        Lib.run_clear_slice wr _ _ ty _ Tryd.underlying44 Tryd.zeroValue3 rfl rfl b i 1 _ (by omega) (fun t ht => by obtain rfl : t = 0 := (by omega); rw [Nat.add_zero, hci]; rfl) (fun t ht => by obtain rfl : t = 0 := (by omega); rw [Nat.add_zero]; exact hfi)
      have hst := slice_toI (some ⟨b, 0, none⟩) n cap i (by omega)
      have HO2 : Hid ((wr.setCells b i [nu 0]).ownsRow 0 3 1 (.slice (some ⟨b, 0, none⟩) i cap) i ((R.eraseIdx m).map nun)) := by
        have h1 := Nm.own_set HO.out i (nun 0)
        rw [← List.map_set] at h1
        have h2 := own_less h1 (show i ≤ n by omega) (by simp)
        rw [amid_end R m i HM.out (by have := HLN.out; omega) 0] at h2
        exact h2
      have HK2 : Hid (Keep (fun j => j = b) w (wr.setCells b i [nu 0])) := HK.out.setCell (p := ⟨b, i, none⟩) (.inl rfl) _
      have hjI : ¬ (j : Int) < (n : Int) := by omega
      have hiI : (i : Int) < (n : Int) := by omega
      have hsz : ∀ ty w, _ := fun (ty : TypeId) (w : World) => hsf w
      clear hy hji HK HO hni he hsz
      go_wp2
      go_ret
      exact ⟨rfl, HO2.out, HK2.out⟩

/-! ### Place, Free -/

theorem PAn.setFree' {w : World} {p : Nat} {fv : Value} {A : Arn} (hblk : w.heap[p]? = some (.cells (pcs A fv).toArray 53)) (hlen : A.sl.length = 32) {lv : Value} {l : List Nat} (ho : w.ownsRow 0 3 1 lv l.length (l.reverse.map nun)) : PAn (w.setCell ⟨p, 544, none⟩ lv) p lv ⟨A.sl, l, A.wr⟩ := by
  have hG : w.grownBy (w.setCell ⟨p, 544, none⟩ lv) (some p) := ⟨rfl, rfl, rfl, by simp, fun k hk hn => Below.heap_setCell _ _ _ k (fun e => hn (by rw [e]))⟩
  have hl : (scs A.sl).length = 544 := by rw [scs_len, hlen]
  have hne : lv.ownBlock ≠ some p := fun e => by
    obtain ⟨c, hc, _⟩ := own_cellsT ho e
    rw [hblk] at hc
    simp at hc
  refine ⟨?_, hlen, ho.kept hG (.inr hne)⟩
  rw [heap_setCell_same _ p 544 _ _ _ hblk]
  refine congrArg (fun c => some (Obj.cells c 53 (0, 0))) ?_
  simp only [pcs, List.setIfInBounds_toArray]
  rw [List.set_append_right _ _ (by omega), hl]
  rfl

theorem nodup_rev {l : List Nat} (h : l.Nodup) : l.reverse.Nodup := List.pairwise_reverse.2 (h.imp (fun e => Ne.symm e))

theorem erase_rev (l : List Nat) (k : Nat) (h : l.Nodup) : (l.erase k).reverse = l.reverse.erase k := by
  rw [List.Nodup.erase_eq_filter h k, List.Nodup.erase_eq_filter (nodup_rev h) k, List.filter_reverse]

set_option maxRecDepth 100000 in
set_option maxHeartbeats 1000000 in
theorem place_any : PlaceC RepP := fun w p F A i ⟨fv, h, e⟩ hg hi => by
  subst e
  have c1 : Hid (∀ wx, _) := fun wx => isSlot_any i wx
  have hmf : ∀ fn first cap w, (Instr.makeFunc fn first cap).run Tryd.prog w = .ok (.func fn first cap) w := fun _ _ _ _ => rfl
  have hB : Below w.heap.size w (w.alloc (.cells #[nu i] 3)) := (Below.refl _ _).alloc (Nat.le_refl _) _
  have hX : Boxed (w.alloc (.cells #[nu i] 3)) w.heap.size 3 (nu i) := Boxed.new w _ _
  have hs0 : (w.alloc (.cells #[nu i] 3)).heap.size = w.heap.size + 1 := by simp
  have hR := h.below hB
  obtain ⟨w0, hw0⟩ : ∃ w0, w.alloc (.cells #[nu i] 3) = w0 := ⟨_, rfl⟩
  rw [hw0] at hB hX hR hs0
  have HW0 := Hid.mk' hw0
  unfold Arn.place
  by_cases ht : there i
  · rw [if_pos ht]
    simp only [decide_eq_true ht] at c1
    obtain ⟨k, rfl⟩ : ∃ k : Nat, i = (k : Int) := ⟨i.toNat, by omega⟩
    have hk : k < 32 := by omega
    simp only [Int.toNat_natCast]
    have c2 := Hid.mk' (isFree_any w0 p (pfp p fv) A k ⟨fv, hR, rfl⟩ hg)
    have hxc := hX.cell
    by_cases hm : k ∈ A.fr
    · rw [if_pos hm]
      rw [decide_eq_true hm] at c2
      have hfew := hg.few
      have hpos : 0 < A.fr.length := List.length_pos_of_mem hm
      obtain ⟨b, cap, hfv, hc1, hc2, hbl, _⟩ := h.freeAt hpos
      obtain ⟨q, hq⟩ : ∃ q, A.fr.length = q + 1 := ⟨A.fr.length - 1, by omega⟩
      obtain ⟨n, hn⟩ : ∃ n, A.fr.length = n := ⟨_, rfl⟩
      have hcb : w.heap.size ≠ b := by omega
      have cD : Hid (∀ wx, PAn wx p fv A → wx.cell? ⟨w.heap.size, 0, none⟩ = some (nun k) → Calls Tryd.prog 37 #[.slice (some ⟨b, 0, none⟩) n cap, .func (.func 38) #[] #[ptr w.heap.size]] wx fun e w' => e = .returned (.slice (some ⟨b, 0, none⟩) q cap) ∧ w'.ownsRow 0 3 1 (.slice (some ⟨b, 0, none⟩) q cap) q ((A.fr.reverse.erase k).map nun) ∧ Keep (fun j => j = b) wx w') := fun wx hp hc => by
        have h0 := hp.fr
        rw [hfv, hn] at h0
        exact delete_any A.fr.reverse n q cap b k w.heap.size wx h0 (by omega) (by omega) hc hcb (by simpa using hm) (nodup_rev hg.nd)
      have HER : Hid ((A.fr.erase k).reverse = A.fr.reverse.erase k) := erase_rev A.fr k hg.nd
      have HEL : Hid ((A.fr.erase k).length = q) := by
        show _ = _
        rw [List.length_erase_of_mem hm]
        omega
      rw [hn] at hfv
      have HFV := Hid.mk' hfv
      have HP := Hid.mk' hR
      have hbp : Hid (p ≠ b) := fun e => h.ne (by rw [hfv, e]; rfl)
      have HB := Hid.mk' hB
      clear h hg hw0 hX hR hB hi hm hpos hq hn ht hfv
      go_enter Tryd.func22, Tryd.ntmps22
      go_wp2_with fail
      refine (c1.out _).mono ?_
      rintro e w1 ⟨rfl, hw1⟩
      rw [HW0.out] at hw1
      subst w1
      go_wp2_with fail
      refine c2.out.mono ?_
      rintro e w1 ⟨rfl, hb1⟩
      have HP1 := Hid.mk' (HP.out.below hb1)
      have hxc1 : w1.cell? ⟨w.heap.size, 0, none⟩ = some (nun k) := (hb1.cell (p := ⟨w.heap.size, 0, none⟩) (by show w.heap.size < w0.heap.size; omega)).trans hxc
      have hq0 : w1.cell? ⟨p, 544, none⟩ = some (.slice (some ⟨b, 0, none⟩) n cap) := by rw [HP1.out.cells.1, HFV.out]
      have HB1 : Hid (Below w.heap.size w w1) := HB.out.trans (hb1.mono HB.out.size)
      have cE := Hid.mk' (cD.out w1 HP1.out hxc1)
      clear hb1 c2 c1 cD hxc hxc1
      go_wp2_with fail
      refine cE.out.mono ?_
      rintro e w2 ⟨rfl, ho2, hk2⟩
      have hbk : w2.heap[p]? = some (.cells (pcs A fv).toArray 53) := (hk2.block p HP1.out.plt hbp.out).trans HP1.out.blk
      have hz0 : w2.cell? ⟨p, 544, none⟩ = some (.slice (some ⟨b, 0, none⟩) n cap) := (hk2.cell (p := ⟨p, 544, none⟩) HP1.out.plt hbp.out).trans hq0
      have hzf : w2.frozen? ⟨p, 544, none⟩ = false := by simp [World.frozen?, hbk]
      have HP3 : Hid (PAn (w2.setCell ⟨p, 544, none⟩ (.slice (some ⟨b, 0, none⟩) q cap)) p (.slice (some ⟨b, 0, none⟩) q cap) ⟨A.sl, A.fr.erase k, A.wr⟩) := PAn.setFree' hbk HP1.out.len (by rw [HEL.out, HER.out]; exact ho2)
      have HK3 : Hid (Keep (pfp p fv) w (w2.setCell ⟨p, 544, none⟩ (.slice (some ⟨b, 0, none⟩) q cap))) := ((Keep.of_below (F := pfp p fv) HB1.out).trans hk2 (fun j _ e => .inr (by rw [HFV.out, e]; rfl))).setCell (p := ⟨p, 544, none⟩) (.inl (.inl rfl)) _
      clear hbk ho2 hk2 cE hq0
      go_wp2
      go_ret
      refine ⟨rfl, pfp p (.slice (some ⟨b, 0, none⟩) q cap), ⟨_, HP3.out, rfl⟩, HK3.out, fun j hj => .inl ?_⟩
      rcases hj with e | e
      · exact .inl e
      · exact .inr (by rw [HFV.out]; exact e)
    · rw [if_neg hm]
      rw [decide_eq_false hm] at c2
      have HP := Hid.mk' hR
      have HB := Hid.mk' hB
      clear h hg hw0 hX hR hB hi hm ht
      go_enter Tryd.func22, Tryd.ntmps22
      go_wp2_with fail
      refine (c1.out _).mono ?_
      rintro e w1 ⟨rfl, hw1⟩
      rw [HW0.out] at hw1
      subst w1
      go_wp2_with fail
      refine c2.out.mono ?_
      rintro e w1 ⟨rfl, hb1⟩
      have HL : Hid (Left RepP w w1 p (pfp p fv) A) := leftP_self (HP.out.below hb1) (Keep.of_below (HB.out.trans (hb1.mono HB.out.size)))
      clear hb1
      go_wp2
      go_ret
      exact ⟨rfl, HL.out⟩
  · rw [if_neg ht]
    simp only [decide_eq_false ht] at c1
    have HL : Hid (Left RepP w w0 p (pfp p fv) A) := leftP_self hR (Keep.of_below hB)
    have hxc := hX.cell
    clear ht hw0 hB hR hX h hi
    go_enter Tryd.func22, Tryd.ntmps22
    go_wp2_with fail
    refine (c1.out _).mono ?_
    rintro e w1 ⟨rfl, hw1⟩
    rw [HW0.out] at hw1
    subst w1
    go_wp2
    go_ret
    exact ⟨rfl, HL.out⟩

set_option maxRecDepth 100000 in
set_option maxHeartbeats 1000000 in
theorem free_any : FreeC RepP := fun w p F A i ⟨fv, h, e⟩ hg hwr hi => by
  subst e
  obtain ⟨i0, ji, hz0, hz1, hz2⟩ := info_parts info_int
  have c1 := Hid.mk' (isSlot_any i w)
  unfold Arn.free
  by_cases ht : there i
  · rw [if_pos ht]
    simp only [decide_eq_true ht] at c1
    obtain ⟨k, rfl⟩ : ∃ k : Nat, i = (k : Int) := ⟨i.toNat, by omega⟩
    have hk : k < 32 := by omega
    simp only [Int.toNat_natCast]
    have c2 := Hid.mk' (isFree_any w p (pfp p fv) A k ⟨fv, h, rfl⟩ hg)
    by_cases hm : k ∈ A.fr
    · rw [if_pos hm]
      rw [decide_eq_true hm] at c2
      have HP := Hid.mk' h
      clear h hg hi hm ht
      go_enter Tryd.func24, Tryd.ntmps24
      go_wp2_with fail
      refine c1.out.mono ?_
      rintro e w1 ⟨rfl, hw1⟩
      subst w1
      go_wp2_with fail
      refine c2.out.mono ?_
      rintro e w1 ⟨rfl, hb1⟩
      have HL : Hid (Left RepP w w1 p (pfp p fv) A) := leftP_self (HP.out.below hb1) (Keep.of_below hb1)
      clear hb1
      go_wp2
      go_ret
      exact ⟨rfl, HL.out⟩
    · rw [if_neg hm]
      rw [decide_eq_false hm] at c2
      have hfew := hg.few
      have HP := Hid.mk' h
      have cB : Hid (∀ wx, _) := fun wx => bare_any wx
      have cW : Hid (∀ wx lv, PAn wx p lv ⟨A.sl, k :: A.fr, A.wr⟩ → _) := fun wx lv hp => write_any wx p lv ⟨A.sl, k :: A.fr, A.wr⟩ k bare hp hk hwr
      obtain ⟨af, cf, hfv, _⟩ := Nm.own_shape h.fr
      obtain ⟨n, hn⟩ : ∃ n, A.fr.length = n := ⟨_, rfl⟩
      rw [hn] at hfv hfew
      have HN := Hid.mk' hn
      subst hfv
      clear h hg hi hm ht hwr hn
      go_enter Tryd.func24, Tryd.ntmps24
      go_wp2_with fail
      refine c1.out.mono ?_
      rintro e w1 ⟨rfl, hw1⟩
      subst w1
      go_wp2_with fail
      refine c2.out.mono ?_
      rintro e w1 ⟨rfl, hb1⟩
      have HP1 := Hid.mk' (HP.out.below hb1)
      have HB1 := Hid.mk' hb1
      have hq0 := HP1.out.cells.1
      have q0' : (w1.alloc (.cells #[nun k] 3)).cell? ⟨p, 544, none⟩ = some (.slice af n cf) := (World.cell?_alloc_lt _ _ _ HP1.out.plt).trans hq0
      have HBA : Hid (Below w1.heap.size w1 (w1.alloc (.cells #[nun k] 3))) := (Below.refl _ _).alloc (Nat.le_refl _) _
      have HPA := Hid.mk' (HP1.out.below HBA.out)
      have HF0 : Hid ((w1.alloc (.cells #[nun k] 3)).ownsRow 0 3 1 (.slice af n cf) n (A.fr.reverse.map nun)) := by have := HPA.out.fr; rwa [HN.out] at this
      clear hb1 c1 c2
      go_upto_region 6 with (at_builtin; refine Nm.wpList_append_keep _ rfl _ _ 44 rfl 0 3 i0 (.int .i64 0) 1 8 Tryd.underlying44 ji hz0 hz1 hz2 rfl (by decide) _ n _ rfl HF0.out ⟨w1.heap.size, 0, none⟩ 1 1 [nun k] rfl rfl (cell_one_new _ _ _) (by simp [Value.oneCell']) (by unfold maxLen; omega) (by omega) (Nat.zero_le _) (by decide) ?_; intro v4 w4 hg4; obtain ⟨ho4, hgr4, _, hpl4⟩ := hg4; obtain ⟨a4, c4, rfl, _⟩ := Nm.own_shape ho4; have HO4 := Hid.mk' ho4; have HG4 := Hid.mk' hgr4; have HPL := Hid.mk' hpl4; have hblk4 := (hgr4.block p HPA.out.plt (fun e => HPA.out.ne e.symm)).trans HPA.out.blk; have HBK4 := Hid.mk' hblk4; have z1 := (World.cell?_of_block (a := ⟨p, 544, none⟩) (hgr4.block p HPA.out.plt (fun e => HPA.out.ne e.symm))).trans q0'; have zf : w4.frozen? ⟨p, 544, none⟩ = false := (by simp [World.frozen?, hblk4]); clear ho4 hgr4 hpl4 hblk4)
      have hP5 : PAn (w4.setCell ⟨p, 544, none⟩ (.slice a4 (n + 1) c4)) p (.slice a4 (n + 1) c4) ⟨A.sl, k :: A.fr, A.wr⟩ := PAn.setFree' HBK4.out HPA.out.len (by
        rw [List.length_cons, HN.out, List.reverse_cons, List.map_append]
        exact HO4.out)
      have hK5 : Keep (pfp p (.slice af n cf)) w (w4.setCell ⟨p, 544, none⟩ (.slice a4 (n + 1) c4)) := by
        have h1 : Keep (pfp p (.slice af n cf)) w (w1.alloc (.cells #[nun k] 3)) := Keep.of_below (HB1.out.alloc HB1.out.size _)
        have h2 := h1.grown HG4.out (fun j e => .inl (.inr e))
        exact h2.setCell (p := ⟨p, 544, none⟩) (.inl (.inl rfl)) _
      have HGO : Hid (Goes w (pfp p (.slice af n cf)) (pfp p (.slice a4 (n + 1) c4))) := fun j hj => by
        rcases hj with e | e
        · exact .inl (.inl e)
        · rcases HPL.out with h1 | ⟨b, h1, h2⟩
          · exact .inl (.inr (h1.symm.trans e))
          · rw [h1] at e
            cases e
            have := HB1.out.size
            have h3 : (w1.alloc (.cells #[nun k] 3)).heap.size = w1.heap.size + 1 := by simp
            exact .inr (by have h4 : (w1.alloc (.cells #[nun k] 3)).heap.size ≤ j := h2; omega)
      clear HG4 HPL HO4 HBK4 z1 zf HF0 HPA HBA q0' hq0 HP1 HB1 HP
      generalize w4.setCell ⟨p, 544, none⟩ (.slice a4 (n + 1) c4) = w5 at *
      have HB6 : Hid (Below w5.heap.size w5 (w5.alloc (.cells bare.cells.toArray 36))) := (Below.refl _ _).alloc (Nat.le_refl _) _
      have HP6 := Hid.mk' (hP5.below HB6.out)
      have HK6 := Hid.mk' (hK5.trans (Keep.of_below (F := fun _ => False) HB6.out) (fun _ _ h => h.elim))
      clear hP5 hK5
      go_wp2_with fail
      refine (cB.out _).mono ?_
      rintro e w6 ⟨rfl, hw6⟩
      rw [← hw6] at HP6 HK6 HB6
      clear hw6
      go_wp2_with fail
      refine (cW.out _ _ HP6.out).mono ?_
      rintro e w7 ⟨⟨u, rfl⟩, hp7, hk7⟩
      have HL : Hid (Left RepP w w7 p (pfp p (.slice af n cf)) ⟨A.sl.set k bare, k :: A.fr, A.wr + 1⟩) := ⟨_, ⟨_, hp7, rfl⟩, HK6.out.trans hk7 (fun j _ e => .inl e), HGO.out⟩
      clear hp7 hk7 cB cW
      go_wp2
      go_ret
      exact ⟨rfl, HL.out⟩
  · rw [if_neg ht]
    simp only [decide_eq_false ht] at c1
    have HL : Hid (Left RepP w w p (pfp p fv) A) := leftP_self h (Keep.refl _ _)
    clear ht h hi hwr
    go_enter Tryd.func24, Tryd.ntmps24
    go_wp2_with fail
    refine c1.out.mono ?_
    rintro e w1 ⟨rfl, hw1⟩
    subst w1
    go_wp2
    go_ret
    exact ⟨rfl, HL.out⟩
end An
end Go.Proofs.YtalpbciceogjlaaDoor
