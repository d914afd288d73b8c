/- PackBack. -/
import Derived.Test.YtojejenijhjglaaDoorPutK
import Derived.Deep.AppendLies
namespace Go.Proofs.YtojejenijhjglaaDoor
set_option linter.ambiguousOpen false
open Go.RowKit
namespace Pk
open Sm Ft
set_option linter.unusedSimpArgs false
set_option linter.unusedVariables false
variable {RW RR : World → Nat → (Nat → Prop) → List UInt8 → Prop}

/-- A reader that this call made, and beside it the items that were taken. -/
def Bs (RR : World → Nat → (Nat → Prop) → List UInt8 → Prop) (w0 w : World) (p : Nat) (rest : List UInt8) (lv : Value) (m : List Itm) : Prop :=
  ∃ F, RR w p F rest ∧ (∀ k, F k → w0.heap.size ≤ k) ∧ Below w0.heap.size w0 w ∧ w.ownsRow w0.heap.size 59 3 lv m.length (ics m) ∧ (∀ g, lv.ownBlock = some g → ¬ F g)

theorem bs_below {w0 w : World} {p : Nat} {rest : List UInt8} {lv : Value} {m : List Itm} (h : Bs RR w0 w p rest lv m) : Below w0.heap.size w0 w := by
  obtain ⟨F, _, _, h3, _⟩ := h
  exact h3

theorem bs_turn {w0 w w' : World} {p : Nat} {rest' : List UInt8} {lv : Value} {m : List Itm} {F F' : Nat → Prop} (h2 : ∀ k, F k → w0.heap.size ≤ k) (h3 : Below w0.heap.size w0 w) (h4 : w.ownsRow w0.heap.size 59 3 lv m.length (ics m)) (h5 : ∀ g, lv.ownBlock = some g → ¬ F g) (hr : RR w' p F' rest') (hk : Keep F w w') (hg : Goes w F F') : Bs RR w0 w' p rest' lv m := by
  refine ⟨F', hr, goesF h3 h2 hg, Keep.belowF h3 hk h2, hk.own h4 h5, fun g hg2 hf => ?_⟩
  rcases hg g hf with h | h
  · exact h5 g hg2 h
  · have := (h4.lt g hg2).2
    omega

theorem rnum_bs (S : Says RW RR) (w0 w : World) (p : Nat) (l : List UInt8) (lv : Value) (m : List Itm) (h : Bs RR w0 w p l lv m) : Calls Tryd.prog 14 #[ptr p] w fun e w' => e = .returned (.tuple #[u6 (num l).1, errE (num l).2.2]) ∧ Bs RR w0 w' p (l.drop (num l).2.1) lv m := by
  obtain ⟨F, h1, h2, h3, h4, h5⟩ := h
  exact (S.rnum w p F l h1).mono fun _ w' ⟨a, F', b, c, d⟩ => ⟨a, bs_turn h2 h3 h4 h5 b c d⟩

theorem rtext_bs (S : Says RW RR) (w0 w : World) (p : Nat) (l : List UInt8) (q : Int) (lv : Value) (m : List Itm) (h : Bs RR w0 w p l lv m) (hm : -9223372036854775808 ≤ q ∧ q ≤ 9223372036854775807) : Calls Tryd.prog 12 #[ptr p, nu q] w fun e w' => e = .returned (.tuple #[.string (tx (taken l q.toNat).1), errE (taken l q.toNat).2.2]) ∧ Bs RR w0 w' p (l.drop (taken l q.toNat).2.1) lv m := by
  obtain ⟨F, h1, h2, h3, h4, h5⟩ := h
  exact (S.rtext w p F l q h1 hm).mono fun _ w' ⟨a, F', b, c, d⟩ => ⟨a, bs_turn h2 h3 h4 h5 b c d⟩

theorem bs_keep (S : Says RW RR) {w0 w w' : World} {p : Nat} {rest : List UInt8} {lv : Value} {m : List Itm} (h : Bs RR w0 w p rest lv m) (hb : Below w.heap.size w w') : Bs RR w0 w' p rest lv m := by
  obtain ⟨F, h1, h2, h3, h4, h5⟩ := h
  exact ⟨F, S.keepR h1 (Keep.of_below (F := fun _ => False) hb) (fun _ _ h => h), h2, h3.trans (hb.mono h3.size), own_keptB h4 hb, h5⟩

theorem left_bs (S : Says RW RR) (w0 w : World) (p : Nat) (l : List UInt8) (lv : Value) (m : List Itm) (h : Bs RR w0 w p l lv m) : Calls Tryd.prog 9 #[ptr p] w fun e w' => e = .returned (nu (l.length : Int)) ∧ Bs RR w0 w' p l lv m := by
  have h0 := h
  obtain ⟨F, h1, _⟩ := h
  exact (S.left w p F l h1).mono fun _ w' ⟨a, b⟩ => ⟨a, bs_keep S h0 b⟩

theorem info_itm : (Tryd.prog.info? 59).map (fun i => (i.zero, i.size, i.bytes)) = some (some (.agg #[.bool false, .int .u64 0, .string ⟨#[]⟩]), 3, 32) := by kernel_rfl

/-- An item more. -/
theorem bs_put (S : Says RW RR) {w0 w w4 : World} {p g2 cap2 H : Nat} {rest : List UInt8} {lv : Value} {m : List Itm} {r : Itm} {o : Obj} (h : Bs RR w0 w p rest lv m) (ho : w4.ownsRow w0.heap.size 59 3 (.slice (some ⟨g2, 0, none⟩) (m.length + 1) cap2) (m.length + 1) (ics m ++ ic r)) (hg : (w.alloc o).grownBy w4 lv.ownBlock) (h2 : lv.ownBlock = some g2 ∨ g2 = H + 1) (hH : w.heap.size = H) :
    Bs RR w0 w4 p rest (.slice (some ⟨g2, 0, none⟩) (m.length + 1) cap2) (m ++ [r]) := by
  obtain ⟨F, k1, k2, k3, k4, k5⟩ := h
  have hK : Keep (fun k => lv.ownBlock = some k) w w4 := ((Keep.refl (fun k => lv.ownBlock = some k) w).alloc o).grown hg (fun k hk => .inl hk)
  refine ⟨F, S.keepR k1 hK (fun k hf hk => k5 k hk hf), k2, ?_, ?_, ?_⟩
  · exact Keep.belowF k3 hK (fun k hk => (k4.lt k hk).1)
  · rw [List.length_append, List.length_singleton, ics_snoc]
    exact ho
  · intro g hgg hf
    simp [Value.ownBlock] at hgg
    subst hgg
    rcases h2 with h2 | h2
    · exact k5 _ h2 hf
    · have := S.ltR k1 _ hf
      omega

theorem bytes_pos (r : Itm) : 0 < r.bytes.length := by
  have hs : ∀ v, 0 < (sev v).length := fun v => by
    by_cases h : v < 128
    · rw [sev_lt v h]; simp
    · rw [sev_ge v (by omega)]; simp
  unfold Itm.bytes
  split
  · unfold txt
    rw [List.length_append]
    have := hs r.s.length
    omega
  · exact hs _

theorem allB_ge (m : List Itm) : m.length ≤ (allB m).length := by
  induction m with
  | nil => simp
  | cons r m ih =>
    have := bytes_pos r
    show m.length + 1 ≤ (r.bytes ++ allB m).length
    rw [List.length_append]
    omega

theorem num_cases (l : List UInt8) : (∃ v n, num l = (v, n, 0) ∧ v < 18446744073709551616 ∧ n ≤ l.length ∧ sev v ++ l.drop n = l) ∨ (∃ no, num l = (0, 0, no + 1)) := by
  obtain ⟨v, n, no, h⟩ : ∃ v n no, num l = (v, n, no) := ⟨_, _, _, rfl⟩
  by_cases h0 : no = 0
  · subst h0
    obtain ⟨h1, h2, h3, h4⟩ := num_back l v n h
    exact .inl ⟨v, n, h, h1, h3, by rw [h4, List.take_append_drop]⟩
  · right
    have := numG_no 10 0 0 l
    rw [show numG 10 0 0 l = (v, n, no) from h] at this
    rcases this with h' | ⟨h1, h2, _⟩
    · exact absurd h' h0
    · simp at h1 h2
      subst h1 h2
      exact ⟨no - 1, by rw [h, show no - 1 + 1 = no by omega]⟩

theorem taken_cases (l : List UInt8) (m : Nat) : (∃ s n, taken l m = (s, n, 0) ∧ n ≤ l.length ∧ txt s ++ l.drop n = l) ∨ (∃ no, taken l m = ([], 0, no + 1)) := by
  obtain ⟨s, n, no, h⟩ : ∃ s n no, taken l m = (s, n, no) := ⟨_, _, _, rfl⟩
  by_cases h0 : no = 0
  · subst h0
    obtain ⟨h1, h2, _⟩ := taken_back l m s n h
    exact .inl ⟨s, n, h, h1, by rw [h2, List.take_append_drop]⟩
  · right
    have h' := h
    unfold taken at h
    refine ⟨no - 1, ?_⟩
    rw [h', show no - 1 + 1 = no by omega]
    split at h
    · simp at h
      obtain ⟨rfl, rfl, _⟩ := h
      rfl
    · split at h
      · simp at h
        obtain ⟨rfl, rfl, _⟩ := h
        rfl
      · split at h
        · simp at h
          obtain ⟨rfl, rfl, _⟩ := h
          rfl
        · simp at h
          exact absurd h.2.2.symm h0

theorem text_cases (S : Says RW RR) (w0 w : World) (p : Nat) (l : List UInt8) (q : Int) (lv : Value) (m : List Itm) (h : Bs RR w0 w p l lv m) (hm : -9223372036854775808 ≤ q ∧ q ≤ 9223372036854775807) :
    (∃ s n, txt s ++ l.drop n = l ∧ Calls Tryd.prog 12 #[ptr p, nu q] w fun e w' => e = .returned (.tuple #[.string (tx s), .nilIface]) ∧ Bs RR w0 w' p (l.drop n) lv m) ∨
    (∃ no : Int, Calls Tryd.prog 12 #[ptr p, nu q] w fun e w' => e = .returned (.tuple #[.string ⟨#[]⟩, .iface 48 (.int .i64 no)]) ∧ Bs RR w0 w' p l lv m) := by
  have c := rtext_bs S w0 w p l q lv m h hm
  rcases taken_cases l q.toNat with ⟨s, n, ht, hn, hs⟩ | ⟨no, ht⟩
  · rw [ht] at c
    exact .inl ⟨s, n, hs, c⟩
  · rw [ht] at c
    exact .inr ⟨_, c⟩

theorem num_cases2 (S : Says RW RR) (w0 w : World) (p : Nat) (l : List UInt8) (lv : Value) (m : List Itm) (h : Bs RR w0 w p l lv m) :
    (∃ v n, v < 18446744073709551616 ∧ sev v ++ l.drop n = l ∧ Calls Tryd.prog 14 #[ptr p] w fun e w' => e = .returned (.tuple #[.int .u64 (v : Int), .nilIface]) ∧ Bs RR w0 w' p (l.drop n) lv m) ∨
    (∃ no : Int, Calls Tryd.prog 14 #[ptr p] w fun e w' => e = .returned (.tuple #[.int .u64 0, .iface 48 (.int .i64 no)]) ∧ Bs RR w0 w' p l lv m) := by
  have c := rnum_bs S w0 w p l lv m h
  rcases num_cases l with ⟨v, n, ht, hv, hn, hs⟩ | ⟨no, ht⟩
  · rw [ht] at c
    exact .inl ⟨v, n, hv, hs, c⟩
  · rw [ht] at c
    exact .inr ⟨_, c⟩

theorem item_text (s : List UInt8) : ic ⟨true, 0, s⟩ = [.bool true, .int .u64 0, .string (tx s)] := rfl

theorem item_num (n : Nat) : ic ⟨false, n, []⟩ = [.bool false, .int .u64 (n : Int), .string ⟨#[]⟩] := rfl

set_option maxRecDepth 100000 in
set_option maxHeartbeats 4000000 in
theorem back_yes (S : Says RW RR) (v qv : Value) (b : List UInt8) (asks : List Ask) (w : World) (hR : RdB w v b) (hQ : RdQ w qv asks) (hl : b.length ≤ 1000000000) (hq : ∀ r ∈ asks, -9223372036854775808 ≤ r.2 ∧ r.2 ≤ 9223372036854775807) :
    Calls Tryd.prog 30 #[v, qv] w fun e w' => e = .returned (.bool true) ∧ Below w.heap.size w w' := by
  obtain ⟨i0, ji, hz0, hz1, hz2⟩ := info_parts info_itm
  have c0 := Hid.mk' (works_yes S w)
  have c2 : Hid (∀ wx, Below w.heap.size w wx → Calls Tryd.prog 6 #[v] wx fun e w' => ∃ p, e = .returned (ptr p) ∧ Bs RR w w' p b (.slice none 0 0) []) := fun wx hb =>
    (open_rr S wx v b (hR.below hb) (by omega)).mono fun _ w' ⟨p, a, hr⟩ => by
      obtain ⟨F, h1, h2, h3⟩ := rr_from hr hb
      exact ⟨p, a, F, h1, h2, h3, World.ownsRow_nil _ _ _ _, fun g hg => by simp [Value.ownBlock] at hg⟩
  have c3 : Hid (∀ wx p l lv m, Bs RR w wx p l lv m → Calls Tryd.prog 9 #[ptr p] wx fun e w' => e = .returned (nu (l.length : Int)) ∧ Bs RR w w' p l lv m) := fun wx p l lv m h => left_bs S w wx p l lv m h
  have cP : Hid (∀ wx lv m, RdI wx lv m → (∀ r ∈ m, r.v < 18446744073709551616) → (allB m).length ≤ 140737488351232 → Calls Tryd.prog 49 #[lv] wx fun e w' => ∃ x, e = .returned x ∧ w'.ownsRow wx.heap.size 5 1 x (allB m).length ((allB m).map by1) ∧ Below wx.heap.size wx w') := fun wx lv m h1 h2 h3 => put_any S lv m wx h1 h2 h3
  have HR := Hid.mk' hR
  obtain ⟨a, cap, rfl, hc, hm, _⟩ := hR
  obtain ⟨aq, capq, rfl, hcq, hmq, hcell⟩ := hQ
  have HC := Hid.mk' hcell
  have HF := Hid.mk' hq
  unfold maxLen at hm hmq
  clear hcell hq
  go_enter Tryd.func30, Tryd.ntmps30
  go_wp2_with fail
  refine c0.out.mono ?_
  rintro e w1 ⟨rfl, h1⟩
  have C2 := Hid.mk' (c2.out _ h1)
  clear h1
  go_wp2_with fail
  refine C2.out.mono ?_
  rintro e w3 ⟨p, rfl, h3⟩
  have H3 := Hid.mk' h3
  clear h3 C2 c0 c2
  go_wp2
  go_loopw [6, 7] (fun lv iv wr => ∃ (k : Nat) (m : List Itm) (rest : List UInt8), k ≤ asks.length ∧ iv = nu k ∧ Hid (Bs RR w wr p rest lv m) ∧ Hid (allB m ++ rest = b) ∧ Hid (∀ r ∈ m, r.v < 18446744073709551616)) (fun _ iv _ => asks.length - (intOf iv).toNat)
  case atStart => exact ⟨0, [], b, Nat.zero_le _, rfl, H3, rfl, fun r hr => by simp at hr⟩
  case round =>
    obtain ⟨k, m, rest, hk, rfl, hW, hA, hV⟩ := hrel
    have hmr : Hid (m.length ≤ 1000000000 ∧ rest.length ≤ b.length ∧ (allB m).length + rest.length = b.length) := by
      have h1 := allB_ge m
      have h2 := congrArg List.length hA.out
      rw [List.length_append] at h2
      exact ⟨by omega, by omega, h2⟩
    obtain ⟨hm1, hm2, hm3⟩ := hmr.out
    obtain ⟨al, capl, rfl, hcl1, hcl2, _⟩ : ∃ al capl, u6 = .slice al m.length capl ∧ m.length ≤ capl ∧ capl ≤ maxLen ∧ True := by
      obtain ⟨F, _, _, _, h4, _⟩ := hW.out
      obtain ⟨al, capl, e, x1, x2, _⟩ := Nm.own_shape h4
      exact ⟨al, capl, e, x1, x2, trivial⟩
    unfold maxLen at hcl2
    by_cases hp : (k : Int) < (asks.length : Int)
    · obtain ⟨g, o, rfl, hgl, hcj⟩ := HC.out (by omega)
      obtain ⟨r, hr⟩ : ∃ r, asks[k]? = some r := ⟨_, List.getElem?_eq_getElem (by omega)⟩
      obtain ⟨q0, q1⟩ := hcj k r hr
      have hrv := HF.out r (List.mem_of_getElem? hr)
      have hk0 : (0 : Int) ≤ (k : Int) := by omega
      have hlat : Hid (∀ w2 l lv m, Bs RR w w2 p l lv m → w2.cell? ⟨g, o + k * 2, none⟩ = some (.bool r.1) ∧ w2.cell? ⟨g, o + k * 2 + 1, none⟩ = some (nu r.2)) := fun w2 l lv m h => by
        have hb := bs_below h
        exact ⟨(hb.cell (p := ⟨g, o + k * 2, none⟩) hgl).trans q0, (hb.cell (p := ⟨g, o + k * 2 + 1, none⟩) hgl).trans q1⟩
      have C3 := Hid.mk' (c3.out _ _ _ _ _ hW.out)
      clear hcj hr q0 q1
      obtain ⟨rt, rm⟩ := r
      go_wp2_with fail
      refine C3.out.mono ?_
      rintro e w4 ⟨rfl, h4⟩
      obtain ⟨p0, p1⟩ := hlat.out _ _ _ _ h4
      try simp only at p0 p1 hrv
      have H4 := Hid.mk' h4
      clear C3
      cases rt with
      | true =>
        rcases text_cases S w w4 p rest rm _ m h4 hrv with ⟨s, n, hs, C⟩ | ⟨no, C⟩
        · have hA' : Hid (allB (m ++ [⟨true, 0, s⟩]) ++ rest.drop n = b) := by
            show _ = _
            rw [allB_snoc, List.append_assoc]
            show allB m ++ (txt s ++ rest.drop n) = b
            rw [hs]
            exact hA.out
          have hV' : Hid (∀ r ∈ m ++ [⟨true, 0, s⟩], r.v < 18446744073709551616) := fun r hr => by
            rcases List.mem_append.1 hr with h | h
            · exact hV.out r h
            · rw [List.mem_singleton.1 h]
              show 0 < _
              decide
          have CC := Hid.mk' C
          have hit := Hid.mk' (item_text s)
          clear C h4 hs
          generalize tx s = f at *
          go_wp2_with fail
          refine CC.out.mono ?_
          rintro e w5 ⟨rfl, h5⟩
          have H5 := Hid.mk' h5
          obtain ⟨F5, _, _, hb5, ho5, _⟩ := h5
          have hnb : Hid ((w5.alloc (.cells #[Value.bool true, .int .u64 0, .string f] 59)).heap[w5.heap.size]? = some (.cells #[Value.bool true, .int .u64 0, .string f] 59)) := heap_alloc_new _ _
          have hone : Hid (∀ u ∈ [Value.bool true, .int .u64 0, .string f], u.oneCell' = true) := by intro u hu; simp at hu; rcases hu with rfl | rfl | rfl <;> rfl
          have hmx : Hid (m.length + 1 ≤ maxLen) := by show _ ≤ _; unfold maxLen; omega
          have hby : Hid ((m.length + 1) * 32 ≤ 140737488355328) := by show _ ≤ _; omega
          have hsz1 : Hid ((w5.alloc (.cells #[Value.bool true, .int .u64 0, .string f] 59)).heap.size = w5.heap.size + 1) := by show _ = _; simp
          have hbb : Hid (w.heap.size ≤ (w5.alloc (.cells #[Value.bool true, .int .u64 0, .string f] 59)).heap.size) := by
            show _ ≤ _
            have := hb5.size
            simp
            omega
          have HO5 := Hid.mk' ho5
          clear hb5 ho5 CC p0 p1
          go_wp2_with (at_builtin; refine wpList_append_lies _ rfl _ _ 61 rfl w.heap.size 59 i0 (.agg #[.bool false, .int .u64 0, .string ⟨#[]⟩]) 3 32 Tryd.underlying61 ji hz0 hz1 hz2 rfl (by decide) _ m.length (ics m) rfl (HO5.out.alloc _) ⟨w5.heap.size, 0, none⟩ 1 1 [Value.bool true, .int .u64 0, .string f] rfl rfl (World.news_of_block hnb.out) hone.out (by decide) hmx.out hby.out hbb.out (w5.heap.size + 1) hsz1.out ?_; intro g2 cap2 w6 hown6 hgrow hg2 hlt2; rw [← hit.out] at hown6; have H6 := Hid.mk' (bs_put S H5.out hown6 hgrow hg2 rfl); clear hown6 hgrow)
          go_wp2
          go_roundw
          case rel => exact ⟨k + 1, m ++ [⟨true, 0, s⟩], rest.drop n, by omega, by go_num, H6, hA', hV'⟩
          case measure => simp [intOf]; omega
        · have CC := Hid.mk' C
          clear C h4
          go_wp2_with fail
          refine CC.out.mono ?_
          rintro e w5 ⟨rfl, h5⟩
          have C3 := Hid.mk' (c3.out _ _ _ _ _ h5)
          clear h5 CC p0 p1
          go_wp2_with fail
          refine C3.out.mono ?_
          rintro e w6 ⟨rfl, h6⟩
          have H6 := Hid.mk' h6
          clear h6 C3
          go_wp2
          go_roundw
          case rel => exact ⟨k + 1, m, rest, by omega, by go_num, H6, hA, hV⟩
          case measure => simp [intOf]; omega
      | false =>
        rcases num_cases2 S w w4 p rest _ m h4 with ⟨x, n, hx, hs, C⟩ | ⟨no, C⟩
        · have hA' : Hid (allB (m ++ [⟨false, x, []⟩]) ++ rest.drop n = b) := by
            show _ = _
            rw [allB_snoc, List.append_assoc]
            show allB m ++ (sev x ++ rest.drop n) = b
            rw [hs]
            exact hA.out
          have hV' : Hid (∀ r ∈ m ++ [⟨false, x, []⟩], r.v < 18446744073709551616) := fun r hr => by
            rcases List.mem_append.1 hr with h | h
            · exact hV.out r h
            · rw [List.mem_singleton.1 h]
              exact hx
          have CC := Hid.mk' C
          have hit := Hid.mk' (item_num x)
          clear C h4 hs
          go_wp2_with fail
          refine CC.out.mono ?_
          rintro e w5 ⟨rfl, h5⟩
          have H5 := Hid.mk' h5
          obtain ⟨F5, _, _, hb5, ho5, _⟩ := h5
          have hnb : Hid ((w5.alloc (.cells #[Value.bool false, .int .u64 (x : Int), .string ⟨#[]⟩] 59)).heap[w5.heap.size]? = some (.cells #[Value.bool false, .int .u64 (x : Int), .string ⟨#[]⟩] 59)) := heap_alloc_new _ _
          have hone : Hid (∀ u ∈ [Value.bool false, .int .u64 (x : Int), .string ⟨#[]⟩], u.oneCell' = true) := by intro u hu; simp at hu; rcases hu with rfl | rfl | rfl <;> rfl
          have hmx : Hid (m.length + 1 ≤ maxLen) := by show _ ≤ _; unfold maxLen; omega
          have hby : Hid ((m.length + 1) * 32 ≤ 140737488355328) := by show _ ≤ _; omega
          have hsz1 : Hid ((w5.alloc (.cells #[Value.bool false, .int .u64 (x : Int), .string ⟨#[]⟩] 59)).heap.size = w5.heap.size + 1) := by show _ = _; simp
          have hbb : Hid (w.heap.size ≤ (w5.alloc (.cells #[Value.bool false, .int .u64 (x : Int), .string ⟨#[]⟩] 59)).heap.size) := by
            show _ ≤ _
            have := hb5.size
            simp
            omega
          have HO5 := Hid.mk' ho5
          clear hb5 ho5 CC p0 p1
          go_wp2_with (at_builtin; refine wpList_append_lies _ rfl _ _ 61 rfl w.heap.size 59 i0 (.agg #[.bool false, .int .u64 0, .string ⟨#[]⟩]) 3 32 Tryd.underlying61 ji hz0 hz1 hz2 rfl (by decide) _ m.length (ics m) rfl (HO5.out.alloc _) ⟨w5.heap.size, 0, none⟩ 1 1 [Value.bool false, .int .u64 (x : Int), .string ⟨#[]⟩] rfl rfl (World.news_of_block hnb.out) hone.out (by decide) hmx.out hby.out hbb.out (w5.heap.size + 1) hsz1.out ?_; intro g2 cap2 w6 hown6 hgrow hg2 hlt2; rw [← hit.out] at hown6; have H6 := Hid.mk' (bs_put S H5.out hown6 hgrow hg2 rfl); clear hown6 hgrow)
          go_wp2
          go_roundw
          case rel => exact ⟨k + 1, m ++ [⟨false, x, []⟩], rest.drop n, by omega, by go_num, H6, hA', hV'⟩
          case measure => simp [intOf]; omega
        · have CC := Hid.mk' C
          clear C h4
          go_wp2_with fail
          refine CC.out.mono ?_
          rintro e w5 ⟨rfl, h5⟩
          have C3 := Hid.mk' (c3.out _ _ _ _ _ h5)
          clear h5 CC p0 p1
          go_wp2_with fail
          refine C3.out.mono ?_
          rintro e w6 ⟨rfl, h6⟩
          have H6 := Hid.mk' h6
          clear h6 C3
          go_wp2
          go_roundw
          case rel => exact ⟨k + 1, m, rest, by omega, by go_num, H6, hA, hV⟩
          case measure => simp [intOf]; omega
    · have C3 := Hid.mk' (c3.out _ _ _ _ _ hW.out)
      go_wp2_with fail
      refine C3.out.mono ?_
      rintro e w4 ⟨rfl, h4⟩
      obtain ⟨N, hN⟩ : ∃ N : Nat, (allB m).length = N := ⟨_, rfl⟩
      have hn : (b.length : Int) - (rest.length : Int) = (N : Int) := by omega
      have hn0 : (0 : Int) ≤ (N : Int) := by omega
      have hn1 : (N : Int) ≤ (b.length : Int) := by omega
      have hsl := fun wx => slice_to a b.length cap N (by omega) wx
      have hbt : b.take N = allB m := by
        rw [← hN, ← hA.out]
        exact List.take_left
      have CP : Hid (∀ wx, Below w4.heap.size w4 wx → Calls Tryd.prog 49 #[.slice al m.length capl] wx fun e w' => ∃ ax cx, e = .returned (.slice ax N cx) ∧ RdB w' (.slice ax N cx) (allB m) ∧ RdB w' (.slice a N cap) (allB m) ∧ Below w.heap.size w w') := fun wx hb => by
        obtain ⟨F, _, _, hb4, ho4, _⟩ := h4
        have hI := (own_rdI ho4).below hb
        refine (cP.out wx _ m hI hV.out (by omega)).mono fun e w' ⟨x, h1, h2, h3⟩ => ?_
        have hx := own_rd h2
        obtain ⟨ax, cx, rfl, _⟩ := id hx
        have hbw : Below w.heap.size w wx := hb4.trans (hb.mono hb4.size)
        have hbw' : Below w.heap.size w w' := hbw.trans (h3.mono hbw.size)
        rw [hN] at h1 hx
        refine ⟨ax, cx, h1, hx, ?_, hbw'⟩
        have := ((HR.out).take N (by omega)).below hbw'
        rw [hbt] at this
        exact this
      have CS : Hid (∀ wx v1 v2, RdB wx v1 (allB m) → RdB wx v2 (allB m) → Calls Tryd.prog 47 #[v1, v2] wx fun e w' => e = .returned (.bool true) ∧ Below wx.heap.size wx w') := fun wx v1 v2 h1 h2 => sameB_eq v1 v2 _ wx h1 h2
      clear h4 C3 cP hbt hN hm3
      go_wp2_with fail
      go_region_held3 (fun w' => w'.heap.size = w'.heap.size) (exact rfl) (first | (go_at_call 49; with_reducible refine (CP.out _ ?hb).mono ?_; (case hb => (first | exact Below.refl _ _ | exact (Below.refl _ _).drew | fail)); rintro e w5 ⟨ax, cx, rfl, hr1, hr2, hb5⟩) | (go_at_call 47; with_reducible refine (CS.out _ _ _ ?h1 ?h2).mono ?_; (case h1 => (first | exact hr1 | exact hr1.below (Below.refl _ _).drew | fail)); (case h2 => (first | exact hr2 | exact hr2.below (Below.refl _ _).drew | fail)); rintro e w6 ⟨rfl, hb6⟩) | fail)
      go_wp2
      go_ret
      first | exact ⟨rfl, hb5.trans (hb6.mono hb5.size)⟩ | exact ⟨rfl, hb5.drew.trans (hb6.mono hb5.size)⟩
end Pk
end Go.Proofs.YtojejenijhjglaaDoor
