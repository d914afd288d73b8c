/- The calls Dotted, Clone and Parts of package names, each as a plain function of the text's bytes. -/
import Derived.Test.YtmgddocninihoabDoorCut
import Derived.Test.YtmgddocninihoabDoorShelf
namespace Go.Proofs.YtmgddocninihoabDoor
open Go.RowKit
namespace Nm

theorem Tryd.info9 : (Tryd.prog.info? 9).map (fun i => (i.zero, i.size, i.bytes)) = some (some (.string ⟨#[]⟩), 1, 16) := by kernel_rfl

/-- What the call owns stays owned where nothing that was there turns. -/
theorem own_below {w w' : World} {base : Nat} {e : TypeId} {size : Nat} {v : Value} {n : Nat} {xs : List Value} (h : w.ownsRow base e size v n xs) (hb : Below w.heap.size w w') : w'.ownsRow base e size v n xs := by
  refine ⟨h.1, ?_⟩
  rcases h.2 with hn | ⟨g, cap, cur, rfl, hbg, hgg, rest⟩
  · exact .inl hn
  · refine .inr ⟨g, cap, cur, rfl, hbg, ?_, rest⟩
    rw [hb.block g (Array.getElem?_eq_some_iff.1 hgg).1]
    exact hgg

def lenOf : Value → Nat
  | .string s => s.size
  | _ => 0

def txt (p : List UInt8) : Value := .string (B p)

theorem cut_l (l : List UInt8) (w : World) (h : l.length ≤ maxLen) :
    Calls Tryd.prog 46 #[.string (B l)] w fun e w' => e = .returned (.tuple #[.string (B (hd l)), .string (B (tl l)), .bool (dotB l)]) ∧ Below w.heap.size w w' := cut_any (B l) w h
theorem name_l (l : List UInt8) (w : World) (h : l.length ≤ maxLen) :
    Calls Tryd.prog 47 #[.string (B l)] w fun e w' => e = .returned (.bool (nameB l)) ∧ Below w.heap.size w w' := name_any (B l) w h

theorem below_then {w a b : World} (h : Below w.heap.size w a) (k : Below a.heap.size a b) : Below w.heap.size w b := h.trans (k.mono h.size)

theorem tl_le (l : List UInt8) : (tl l).length ≤ l.length := by
  induction l with
  | nil => simp [tl]
  | cons c l ih => unfold tl; split <;> simp <;> omega

set_option maxRecDepth 1000000 in
set_option maxHeartbeats 1000000 in
theorem dotted_l (l : List UInt8) (w : World) (hs : l.length ≤ maxLen) :
    Calls Tryd.prog 31 #[.string (B l)] w fun e w' => e = .returned (.bool (dottedB l)) ∧ Below w.heap.size w w' := by
  go_enter Tryd.func31, Tryd.ntmps31
  go_wp2
  go_loopw [0, 6] (fun sv i wr => ∃ (k : Nat) (cur : List UInt8), k ≤ 4 ∧ i = .int .i64 k ∧ sv = .string (B cur) ∧ cur.length ≤ l.length ∧ Hid (dotN (4 - k) cur = dottedB l) ∧ Below w.heap.size w wr) (fun _ i _ => 4 - (intOf i).toNat)
  case atStart => exact ⟨0, l, by omega, rfl, rfl, Nat.le_refl _, rfl, Below.refl _ _⟩
  case round =>
    obtain ⟨k, cur, hk, rfl, rfl, hcur, hdot, hbel⟩ := hrel
    by_cases h4 : k < 4
    · have HC : Hid (cur.length ≤ maxLen) := Nat.le_trans hcur hs
      have HH : Hid ((hd cur).length ≤ maxLen) := Nat.le_trans (hd_le cur) HC.out
      have HT : Hid ((tl cur).length ≤ l.length) := Nat.le_trans (tl_le cur) hcur
      obtain ⟨m, hm⟩ : ∃ m, 4 - k = m + 1 := ⟨3 - k, by omega⟩
      have HM : Hid (4 - k = m + 1) := hm
      clear hm hs hcur
      cases hn : nameB (hd cur) with
      | false =>
        have HF : Hid (dottedB l = false) := by rw [← hdot.out]; exact dotN_bad _ _ hn
        go_wp2_with (first | (go_at_call 46; refine (cut_l _ _ HC.out).mono ?_; rintro e w1 ⟨rfl, hb1⟩) | (go_at_call 47; refine (name_l _ _ HH.out).mono ?_; rintro e w2 ⟨rfl, hb2⟩))
        go_ret
        exact ⟨ret_bool HF.out.symm, below_then (below_then hbel hb1) hb2⟩
      | true =>
        cases hd : dotB cur with
        | false =>
          have HF : Hid (dottedB l = true) := by rw [← hdot.out, HM.out]; exact dotN_end _ _ hn hd
          go_wp2_with (first | (go_at_call 46; refine (cut_l _ _ HC.out).mono ?_; rintro e w1 ⟨rfl, hb1⟩) | (go_at_call 47; refine (name_l _ _ HH.out).mono ?_; rintro e w2 ⟨rfl, hb2⟩))
          go_ret
          exact ⟨ret_bool HF.out.symm, below_then (below_then hbel hb1) hb2⟩
        | true =>
          have HF : Hid (dotN (4 - (k + 1)) (tl cur) = dottedB l) := by
            rw [← hdot.out, HM.out, dotN_go _ _ hn hd]
            have : 4 - (k + 1) = m := by have := HM.out; omega
            rw [this]; exact rfl
          go_wp2_with (first | (go_at_call 46; refine (cut_l _ _ HC.out).mono ?_; rintro e w1 ⟨rfl, hb1⟩) | (go_at_call 47; refine (name_l _ _ HH.out).mono ?_; rintro e w2 ⟨rfl, hb2⟩))
          go_roundw
          case rel => exact ⟨k + 1, tl cur, by omega, by go_num, rfl, HT.out, HF, below_then (below_then hbel hb1) hb2⟩
          case measure => simp [intOf]; omega
    · have HF : Hid (dottedB l = false) := by
        rw [← hdot.out, show 4 - k = 0 by omega]; exact dotN_zero _
      go_wp2
      go_ret
      exact ⟨ret_bool HF.out.symm, hbel⟩

set_option maxHeartbeats 400000 in
theorem clone_l (l : List UInt8) (w : World) (h : l.length ≤ 65536) :
    Calls Tryd.prog 36 #[.string (B l)] w fun e w' => e = .returned (.string (B l)) ∧ Below w.heap.size w w' := by
  go_enter Tryd.func36, Tryd.ntmps36
  go_wp2_with (go_at_call 52; refine (Tryd.stringslite_Clone _ _ (by exact Nat.le_trans h (by decide))).mono ?_; rintro e w1 ⟨rfl, hb1⟩)
  go_ret
  exact ⟨rfl, hb1⟩

theorem dotted_short {l : List UInt8} (h : dottedB l = true) : ∀ p ∈ pieces l, p.length ≤ 32 := by
  intro p hp
  simp only [dottedB, dotN, Bool.and_eq_true, List.all_eq_true] at h
  have := h.2 p hp
  simp only [nameB, Bool.and_eq_true, decide_eq_true_eq] at this
  exact this.1.2

theorem hd_mem (l : List UInt8) : hd l ∈ pieces l := by rw [pieces_eq]; simp

set_option maxRecDepth 1000000 in
set_option maxHeartbeats 1000000 in
theorem parts_l (l : List UInt8) (w : World) (hs : l.length ≤ maxLen) :
    Calls Tryd.prog 60 #[.string (B l)] w fun e w' => ∃ v, e = .returned v ∧ w'.ownsRow w.heap.size 9 1 v (partsL l).length ((partsL l).map txt) ∧ Below w.heap.size w w' := by
  have HS : Hid (l.length ≤ maxLen) := hs
  clear hs
  cases hd : dottedB l with
  | false =>
    have HP : Hid (partsL l = []) := by show partsL l = []; unfold partsL; rw [hd]; rfl
    go_enter Tryd.func60, Tryd.ntmps60
    go_wp2_with (go_at_call 31; refine (dotted_l _ _ HS.out).mono ?_; rintro e w1 ⟨rfl, hb1⟩)
    go_ret
    refine ⟨_, rfl, ?_, hb1⟩
    rw [HP.out]
    exact World.ownsRow_nil _ _ _ _
  | true =>
    have HP : Hid (partsL l = pieces l) := by show partsL l = pieces l; unfold partsL; rw [hd]; rfl
    have HQ : Hid (∀ p ∈ pieces l, p.length ≤ 32) := dotted_short hd
    have hcnt : Hid ((pieces l).length ≤ 4) := dotted_count hd
    obtain ⟨i0, hi, hz0, hz1, hz2⟩ := info_parts Tryd.info9
    go_enter Tryd.func60, Tryd.ntmps60
    go_wp2_with (go_at_call 31; refine (dotted_l _ _ HS.out).mono ?_; rintro e w1 ⟨rfl, hb1⟩)
    go_loopw [0, 3] (fun sv pv wr => ∃ (acc : List (List UInt8)) (cur : List UInt8), sv = .string (B cur) ∧ cur.length ≤ l.length ∧ Hid (acc ++ pieces cur = pieces l) ∧ wr.ownsRow w.heap.size 9 1 pv acc.length (acc.map txt) ∧ Below w.heap.size w wr) (fun sv _ _ => lenOf sv)
    case atStart => exact ⟨[], l, rfl, Nat.le_refl _, rfl, World.ownsRow_nil _ _ _ _, hb1⟩
    case round =>
      obtain ⟨acc, cur, rfl, hcur, hsum, hown, hbel⟩ := hrel
      have HC : Hid (cur.length ≤ maxLen) := Nat.le_trans hcur HS.out
      have HT : Hid ((tl cur).length ≤ l.length) := Nat.le_trans (tl_le cur) hcur
      have HH : Hid ((Nm.hd cur).length ≤ 65536) := by
        have := HQ.out (Nm.hd cur) (by rw [← hsum.out]; exact List.mem_append_right _ (hd_mem cur))
        show (Nm.hd cur).length ≤ 65536; omega
      have hacc : acc.length < 4 := by
        have h1 := hcnt.out
        rw [← hsum.out, List.length_append] at h1
        have := pieces_pos cur; omega
      clear hcur
      go_wp2_with fail
      refine (cut_l _ _ HC.out).mono ?_
      rintro e w2 ⟨rfl, hb2⟩
      go_wp2_with fail
      refine (clone_l _ _ HH.out).mono ?_
      rintro e w3 ⟨rfl, hb3⟩
      have hown3 := own_below (own_below hown hb2) hb3
      have hbel3 := below_then (below_then hbel hb2) hb3
      clear hown hb2 hb3 hbel
      go_wp2_with (at_builtin; refine wpList_append_own _ rfl _ _ 26 rfl w.heap.size 9 i0 (.string ⟨#[]⟩) 1 16 Tryd.underlying26 hi hz0 hz1 hz2 rfl (by decide) _ _ _ rfl (hown3.alloc _) ⟨w3.heap.size, 0, none⟩ 1 1 [txt (Nm.hd cur)] rfl rfl ?c1 ?c2 ?c3 ?c4 ?c5 ?_)
      case c1 => exact cell_one_new _ _ _
      case c2 => intro u hu; simp at hu; subst hu; rfl
      case c3 => unfold maxLen; omega
      case c4 => omega
      case c5 => have := hbel3.size; simp; omega
      intro v' w4 hown4 hgrow _
      have hbel4 : Below w.heap.size w w4 := Below.grown (hbel3.alloc (by exact hbel3.size) _) hgrow (by have := hbel3.size; simp; omega) (fun k hk => (hown3.lt k hk).1)
      have hown5 : w4.ownsRow w.heap.size 9 1 v' (acc ++ [Nm.hd cur]).length ((acc ++ [Nm.hd cur]).map txt) := by simpa using hown4
      clear hown3 hown4 hgrow hbel3
      cases hdc : dotB cur with
      | false =>
        have HE : Hid (partsL l = acc ++ [Nm.hd cur]) := by
          show partsL l = acc ++ [Nm.hd cur]
          rw [HP.out, ← hsum.out, pieces_eq cur, hdc]; simp
        go_wp2
        go_ret
        refine ⟨_, rfl, ?_, hbel4⟩
        rw [HE.out]
        exact hown5
      | true =>
        have HE : Hid ((acc ++ [Nm.hd cur]) ++ pieces (tl cur) = pieces l) := by
          show (acc ++ [Nm.hd cur]) ++ pieces (tl cur) = pieces l
          rw [← hsum.out, pieces_eq cur, hdc]; simp
        have HL : Hid ((tl cur).length < cur.length) := tl_lt cur hdc
        go_wp2
        go_roundw
        case rel => exact ⟨acc ++ [Nm.hd cur], tl cur, rfl, HT.out, HE, hown5, hbel4⟩
        case measure => exact HL.out
end Nm
end Go.Proofs.YtmgddocninihoabDoor
