/- Lists of sessions that are lent with marks behind, and looked at again. -/
import Derived.Test.YtfhnfejghngoeaaBest
namespace Go.Proofs.Ytfhnfejghngoeaa
set_option linter.ambiguousOpen false
open Go.RowKit
namespace Lv
set_option linter.unusedSimpArgs false
set_option linter.unusedVariables false

theorem Ses.cells_len (s : Ses) : s.cells.length = 12 := rfl

theorem Ses.one (s : Ses) : ∀ u ∈ s.cells, u.oneCell' = true := by
  intro u hu
  simp only [Ses.cells, List.mem_cons, List.not_mem_nil, or_false] at hu
  rcases hu with rfl | rfl | rfl | rfl | rfl | rfl | rfl | rfl | rfl | rfl | rfl | rfl <;> rfl

theorem flat_len : ∀ L : List Ses, (L.flatMap Ses.cells).length = L.length * 12
  | [] => rfl
  | s :: t => by rw [List.flatMap_cons, List.length_append, flat_len t, Ses.cells_len, List.length_cons]; omega

theorem flat_at : ∀ (L : List Ses) (i c : Nat) (hi : i < L.length) (hc : c < 12), (L.flatMap Ses.cells)[i * 12 + c]? = (L[i]).cells[c]?
  | [], i, c, hi, _ => by simp at hi
  | s :: t, 0, c, _, hc => by
    rw [List.flatMap_cons, List.getElem?_append_left (by rw [Ses.cells_len]; omega)]
    simp
  | s :: t, i + 1, c, hi, hc => by
    have ih := flat_at t i c (by simpa using hi) hc
    rw [List.flatMap_cons, List.getElem?_append_right (by rw [Ses.cells_len]; omega), Ses.cells_len, show (i + 1) * 12 + c - 12 = i * 12 + c by omega, ih]
    simp

theorem own_at {w : World} {base g cap n : Nat} {L : List Ses} (h : w.ownsRow base 28 12 (.slice (some ⟨g, 0, none⟩) n cap) n (L.flatMap Ses.cells)) (i : Nat) (hi : i < L.length) : At w g (i * 12) L[i] := fun c v hv => by
  have hc : c < 12 := (List.getElem?_eq_some_iff.1 hv).1
  have := h.cells (g := g) rfl (i * 12 + c) v ((flat_at L i c hi hc).trans hv)
  rwa [Addr.add_mid, Nat.zero_add] at this

theorem own_kept {w w' : World} {base : Nat} {e : TypeId} {size : Nat} {v : Value} {n : Nat} {xs : List Value} (h : w.ownsRow base e size v n xs) (hb : Below w.heap.size w w') : w'.ownsRow base e size v n xs := by
  refine ⟨h.1, ?_⟩
  rcases h.2 with hn | ⟨g, cap, cur, rfl, hbg, hgg, rest⟩
  · exact .inl hn
  · refine .inr ⟨g, cap, cur, rfl, hbg, ?_, rest⟩
    rw [hb.block g (Array.getElem?_eq_some_iff.1 hgg).1]
    exact hgg

theorem own_has {w : World} {base n : Nat} {v : Value} {e : TypeId} {size : Nat} {xs : List Value} (h : w.ownsRow base e size v n xs) (hn : 0 < n) : ∃ g cap, v = .slice (some ⟨g, 0, none⟩) n cap ∧ n ≤ cap ∧ cap ≤ maxLen ∧ base ≤ g ∧ g < w.heap.size := by
  rcases h.2 with ⟨_, h0⟩ | ⟨g, cap, cur, rfl, h1, h2, h3, h4, _⟩
  · omega
  · exact ⟨g, cap, rfl, h3, h4, h1, (Array.getElem?_eq_some_iff.1 h2).1⟩

theorem cells_new (w : World) (s : Ses) : ∀ j u, s.cells[j]? = some u → (w.alloc (.cells s.arr 28)).cell? ((⟨w.heap.size, 0, none⟩ : Addr).add j) = some u := fun j u hu => by
  rw [Addr.add_mid, Nat.zero_add]
  have := at_block (heap_alloc_new w (.cells s.arr 28)) j u hu
  rwa [Nat.zero_add] at this

theorem Try.infoSes : (Try.prog.info? 28).map (fun i => (i.zero, i.size, i.bytes)) = some (some (.agg zs.arr), 12, 112) := by kernel_rfl

/-! ### Marks -/

def bytes5 (ns : List Int) : ByteArray := ns.foldl (fun r n => r.push (UInt8.ofNat n.toNat)) ByteArray.empty

theorem run_conv5 (w : World) (a0 a1 a2 a3 a4 : Int) :
    Sem.run Try.prog (convert 46 9 (.slice (some ⟨w.heap.size, 0, none⟩) 5 5)) (w.alloc (.cells #[.int .u8 a0, .int .u8 a1, .int .u8 a2, .int .u8 a3, .int .u8 a4] 5)) =
      .ok (.string (bytes5 [a0, a1, a2, a3, a4])) (w.alloc (.cells #[.int .u8 a0, .int .u8 a1, .int .u8 a2, .int .u8 a3, .int .u8 a4] 5)) := by
  rw [run_convert_bytes_string _ 46 9 5 _ 5 5 Try.underlying46 Try.underlying5 Try.underlying9]
  refine run_bytesToString _ _ 5 5 [a0, a1, a2, a3, a4] ?_
  refine run_loadCells_list (w.alloc (.cells #[.int .u8 a0, .int .u8 a1, .int .u8 a2, .int .u8 a3, .int .u8 a4] 5)) ⟨w.heap.size, 0, none⟩ [.int .u8 a0, .int .u8 a1, .int .u8 a2, .int .u8 a3, .int .u8 a4] ?_
  intro j v h
  match j, h with
  | 0, h => simp at h; subst h; simp [Addr.add]
  | 1, h => simp at h; subst h; simp [Addr.add]
  | 2, h => simp at h; subst h; simp [Addr.add]
  | 3, h => simp at h; subst h; simp [Addr.add]
  | 4, h => simp at h; subst h; simp [Addr.add]
  | n + 5, h => simp at h

def mkT (i : Int) : ByteArray := bytes5 [35, 90, 0, i % 256, i / 256 % 256]

set_option maxRecDepth 1000000 in
set_option maxHeartbeats 1000000 in
theorem markt_any (i : Int) (h1 : -4611686018427387904 ≤ i) (h2 : i ≤ 4611686018427387904) (w : World) :
    Calls Try.prog 17 #[.int .i64 90, .int .i64 i] w fun e w' => e = .returned (.string (mkT i)) ∧ Below w.heap.size w w' := by
  have hcv := run_conv5
  go_enter Try.func17, Try.ntmps17
  go_wp2
  go_ret
  exact ⟨rfl, (Below.refl _ _).alloc (Nat.le_refl _) _⟩

/-- A mark. -/
def mkS (i : Int) : Ses := ⟨0, -97, 0, 0, 0, ⟨#[]⟩, mkT i, 0, 0, 0, 0, 0⟩

def mks (n : Nat) : List Ses := (List.range n).map (fun i : Nat => mkS i)

theorem mks_len (n : Nat) : (mks n).length = n := by simp [mks]

theorem mks_succ (n : Nat) : mks (n + 1) = mks n ++ [mkS n] := by simp [mks, List.range_succ]

set_option maxRecDepth 100000 in
set_option maxHeartbeats 1000000 in
theorem mark_any (i : Int) (h1 : -4611686018427387904 ≤ i) (h2 : i ≤ 4611686018427387904) (w : World) :
    Calls Try.prog 13 #[.int .i64 90, .int .i64 i] w fun e w' => e = .returned (.agg (mkS i).arr) ∧ Below w.heap.size w w' := by
  have c : Hid (∀ w1, Calls Try.prog 17 #[.int .i64 90, .int .i64 i] w1 fun e w' => e = .returned (.string (mkT i)) ∧ Below w1.heap.size w1 w') := fun w1 => markt_any i h1 h2 w1
  have HZ : Hid ((w.alloc (.cells zs.arr 28)).heap[w.heap.size]? = some (.cells zs.arr 28 (0, 0))) := heap_alloc_new _ _
  have hB0 : Below w.heap.size w (w.alloc (.cells zs.arr 28)) := (Below.refl _ _).alloc (Nat.le_refl _) _
  unfold mkS
  go_enter Try.func13, Try.ntmps13
  go_wp2_with fail
  refine (c.out _).mono ?_
  rintro e w3 ⟨rfl, hq⟩
  have hz3 : Hid (w3.heap[w.heap.size]? = some (.cells zs.arr 28 (0, 0))) := (hq.block _ (Array.getElem?_eq_some_iff.1 HZ.out).1).trans HZ.out
  have hB3 := hB0.trans (hq.mono (by simp))
  have A := at_block hz3.out
  have zf : ∀ i, w3.frozen? ⟨w.heap.size, i, none⟩ = false := by
    intro i
    simp [World.frozen?, hz3.out]
  have z0 := A 0 _ rfl
  have z1 := A 1 _ rfl
  have z2 := A 2 _ rfl
  have z3 := A 3 _ rfl
  have z4 := A 4 _ rfl
  have z5 := A 5 _ rfl
  have z6 := A 6 _ rfl
  have z7 := A 7 _ rfl
  have z8 := A 8 _ rfl
  have z9 := A 9 _ rfl
  have z10 := A 10 _ rfl
  have z11 := A 11 _ rfl
  clear A hq hB0 HZ
  go_wp2
  refine bodyPost_ret (results_cell_row rfl _ _ w.heap.size _ _ _ _ rfl (putS_heap (z := zs) (mkS i) hz3.out) Try.underlying28 rfl (sesSize _)) rfl ?_
  exact ⟨rfl, putS_below (mkS i) hB3 (Nat.le_refl _)⟩

theorem flat_snoc (l : List Ses) (k : Nat) (h : k < l.length) : (l.take (k + 1)).flatMap Ses.cells = (l.take k).flatMap Ses.cells ++ (nth l k).cells := by
  rw [List.take_succ_eq_append_getElem h, List.flatMap_append, nth_eq h]; simp

set_option maxRecDepth 100000 in
set_option maxHeartbeats 4000000 in
theorem full_any (v : Value) (l : List Ses) (w : World) (hR : RdS w v l) (hl : l.length * 112 ≤ 140737488351232) :
    Calls Try.prog 9 #[v] w fun e w' => ∃ v', e = .returned v' ∧ w'.ownsRow w.heap.size 28 12 v' (l.length + 16) ((l ++ mks 16).flatMap Ses.cells) ∧ Below w.heap.size w w' := by
  obtain ⟨i0, hi, hz0, hz1, hz2⟩ := info_parts Try.infoSes
  obtain ⟨a, cap, rfl, hc, hm, hcell⟩ := hR
  unfold maxLen at hm
  have HC : Hid (0 < l.length → ∃ g o, a = some ⟨g, o, none⟩ ∧ ∀ j (hj : j < l.length), At w g (o + j * 12) l[j]) := hcell
  clear hcell
  have HI : Hid (Try.prog.info? 28 = some i0 ∧ i0.zero = some (.agg zs.arr) ∧ i0.size = 12 ∧ i0.bytes = 112) := ⟨hi, hz0, hz1, hz2⟩
  clear hi hz0 hz1 hz2
  go_enter Try.func9, Try.ntmps9
  go_wp2
  go_loopw [3, 4] (fun pv iv wr => ∃ k : Nat, k ≤ l.length ∧ iv = .int .i64 k ∧ wr.ownsRow w.heap.size 28 12 pv k ((l.take k).flatMap Ses.cells) ∧ Below w.heap.size w wr) (fun _ iv _ => l.length - (intOf iv).toNat)
  case atStart => exact ⟨0, Nat.zero_le _, rfl, World.ownsRow_nil _ _ _ _, Below.refl _ _⟩
  case round =>
    obtain ⟨k, hk, rfl, hown, hbel⟩ := hrel
    by_cases hp : k < l.length
    · obtain ⟨g, o, rfl, hcj⟩ := HC.out (Nat.lt_of_le_of_lt (Nat.zero_le _) hp)
      have hAk : Hid (At wr g (o + k * 12) (nth l k)) := by
        show At _ _ _ _
        rw [nth_eq hp]; exact (hcj k hp).below hbel (hcj k hp).lt
      have HS : Hid ((l.take (k + 1)).flatMap Ses.cells = (l.take k).flatMap Ses.cells ++ (nth l k).cells) := flat_snoc l k hp
      have HO : Hid (wr.ownsRow w.heap.size 28 12 u3 k ((l.take k).flatMap Ses.cells)) := hown
      clear hcj hown
      generalize nth l k = x at *
      obtain ⟨f0, f1, f2, f3, f4, f5, f6, f7, f8, f9, f10, f11⟩ := x
      have c0 : wr.cell? ⟨g, o + k * 12, none⟩ = some (.int .i64 f0) := hAk.out 0 _ rfl
      have c1 := hAk.out 1 _ rfl
      have c2 := hAk.out 2 _ rfl
      have c3 := hAk.out 3 _ rfl
      have c4 := hAk.out 4 _ rfl
      have c5 := hAk.out 5 _ rfl
      have c6 := hAk.out 6 _ rfl
      have c7 := hAk.out 7 _ rfl
      have c8 := hAk.out 8 _ rfl
      have c9 := hAk.out 9 _ rfl
      have c10 := hAk.out 10 _ rfl
      have c11 := hAk.out 11 _ rfl
      go_wp2_with (at_builtin; refine wpList_append_own _ rfl _ _ 22 rfl w.heap.size 28 i0 (.agg zs.arr) 12 112 Try.underlying22 HI.out.1 HI.out.2.1 HI.out.2.2.1 HI.out.2.2.2 rfl (by decide) _ _ _ rfl (HO.out.alloc _) ⟨wr.heap.size, 0, none⟩ 1 1 (Ses.cells ⟨f0, f1, f2, f3, f4, f5, f6, f7, f8, f9, f10, f11⟩) rfl rfl (cells_new _ _) (Ses.one _) (by unfold maxLen; omega) (by omega) (by have := hbel.size; simp; omega) ?_; intro v' w4 hown4 hgrow _; have hbel4 : Below w.heap.size w w4 := Below.grown (hbel.alloc (by exact hbel.size) _) hgrow (by have := hbel.size; simp; omega) (fun k hk => (HO.out.lt k hk).1))
      go_roundw
      case rel => exact ⟨k + 1, by omega, by go_num, by rw [HS.out]; exact hown4, hbel4⟩
      case measure => simp [intOf]; omega
    · obtain rfl : k = l.length := by omega
      rw [List.take_length] at hown
      rename World => w1
      go_wp2
      go_loopw [3, 5] (fun pv iv wr => ∃ k : Nat, k ≤ 16 ∧ iv = .int .i64 k ∧ wr.ownsRow w.heap.size 28 12 pv (l.length + k) ((l ++ mks k).flatMap Ses.cells) ∧ Below w.heap.size w wr) (fun _ iv _ => 16 - (intOf iv).toNat)
      case atStart => exact ⟨0, Nat.zero_le _, rfl, by simpa [mks] using hown, hbel⟩
      case round =>
        obtain ⟨k, hk2, rfl, hown2, hbel2⟩ := hrel
        by_cases hp2 : k < 16
        · have cm := mark_any k (by omega) (by omega) wr
          have HS : Hid ((l ++ mks (k + 1)).flatMap Ses.cells = (l ++ mks k).flatMap Ses.cells ++ (mkS k).cells) := by
            show _ = _
            rw [mks_succ, ← List.append_assoc, List.flatMap_append]; simp
          have HO : Hid (wr.ownsRow w.heap.size 28 12 u3 (l.length + k) ((l ++ mks k).flatMap Ses.cells)) := hown2
          clear hown2 hown
          go_wp2_with fail
          refine cm.mono ?_
          rintro e w3 ⟨rfl, hb3⟩
          have HO3 : Hid (w3.ownsRow w.heap.size 28 12 u3 (l.length + k) ((l ++ mks k).flatMap Ses.cells)) := own_kept HO.out hb3
          have hbel3 := hbel2.trans (hb3.mono hbel2.size)
          clear hb3 HO
          simp only [mkS, Ses.arr]
          go_wp2_with (at_builtin; refine wpList_append_own _ rfl _ _ 22 rfl w.heap.size 28 i0 (.agg zs.arr) 12 112 Try.underlying22 HI.out.1 HI.out.2.1 HI.out.2.2.1 HI.out.2.2.2 rfl (by decide) _ _ _ rfl (HO3.out.alloc _) ⟨w3.heap.size, 0, none⟩ 1 1 (Ses.cells (mkS k)) rfl rfl (cells_new _ _) (Ses.one _) (by unfold maxLen; omega) (by omega) (by have := hbel3.size; simp; omega) ?_; intro v' w4 hown4 hgrow _; have hbel4 : Below w.heap.size w w4 := Below.grown (hbel3.alloc (by exact hbel3.size) _) hgrow (by have := hbel3.size; simp; omega) (fun k hk => (HO3.out.lt k hk).1))
          go_roundw
          case rel => exact ⟨k + 1, by omega, by go_num, by rw [HS.out]; exact hown4, hbel4⟩
          case measure => simp [intOf]; omega
        · obtain rfl : k = 16 := by omega
          go_wp2
          go_ret
          exact ⟨_, rfl, hown2, hbel2⟩

set_option maxRecDepth 100000 in
set_option maxHeartbeats 1000000 in
theorem lent_any (v : Value) (l : List Ses) (w : World) (hR : RdS w v l) (hl : l.length * 112 ≤ 140737488351232) :
    Calls Try.prog 5 #[v] w fun e w' => ∃ g cap, e = .returned (.slice (some ⟨g, 0, none⟩) l.length cap) ∧ l.length + 16 ≤ cap ∧ cap ≤ maxLen ∧ w'.ownsRow w.heap.size 28 12 (.slice (some ⟨g, 0, none⟩) (l.length + 16) cap) (l.length + 16) ((l ++ mks 16).flatMap Ses.cells) ∧ Below w.heap.size w w' := by
  have c := full_any v l w hR hl
  obtain ⟨a, cap0, rfl, hc, hm, hcell⟩ := hR
  unfold maxLen at hm
  clear hcell
  go_enter Try.func5, Try.ntmps5
  go_wp2_with fail
  refine c.mono ?_
  rintro e w1 ⟨v', rfl, hown, hb⟩
  obtain ⟨g, cap, rfl, h1, h2, h3, h4⟩ := own_has hown (by omega)
  have h2' := h2
  unfold maxLen at h2
  have HO : Hid (w1.ownsRow w.heap.size 28 12 (.slice (some ⟨g, 0, none⟩) (l.length + 16) cap) (l.length + 16) ((l ++ mks 16).flatMap Ses.cells)) := hown
  clear hown
  go_wp2
  go_ret
  exact ⟨g, cap, rfl, h1, h2', HO.out, hb⟩
end Lv
end Go.Proofs.Ytfhnfejghngoeaa
