/- Best of a list of sessions. -/
import Derived.Test.YtfhnfejghngoeaaDoorOwn
import Derived.Laws.ResultCell
namespace Go.Proofs.YtfhnfejghngoeaaDoor
set_option linter.ambiguousOpen false
open Go.RowKit
namespace Lv
set_option linter.unusedSimpArgs false
set_option linter.unusedVariables false

/-- The session at a place. -/
def nth (l : List Ses) (k : Nat) : Ses := l.getD k zs

theorem nth_eq {l : List Ses} {k : Nat} (h : k < l.length) : nth l k = l[k] := by
  unfold nth; rw [List.getD_eq_getElem?_getD, List.getElem?_eq_getElem h]; rfl

/-- The place of the best one of the first k. -/
def bst (l : List Ses) (now : Int) : Nat → Option Nat
  | 0 => none
  | k + 1 => if (nth l k).deadline ≤ now then bst l now k else
    match bst l now k with
    | none => some k
    | some j => if betterB (nth l k) (nth l j) = true then some k else some j

theorem bst_lt {l : List Ses} {now : Int} : ∀ {k j : Nat}, bst l now k = some j → j < k ∧ now < (nth l j).deadline
  | 0, j, h => by cases h
  | k + 1, j, h => by
    unfold bst at h
    split at h
    · have := bst_lt h; exact ⟨by omega, this.2⟩
    · rename_i hd
      split at h
      · obtain rfl := Option.some.inj h
        exact ⟨by omega, by omega⟩
      · rename_i m hm
        have := bst_lt hm
        split at h
        · obtain rfl := Option.some.inj h
          exact ⟨by omega, by omega⟩
        · obtain rfl := Option.some.inj h
          exact ⟨by omega, this.2⟩

/-- A place as a number. -/
def bi : Option Nat → Int
  | none => -1
  | some j => j

def bestS (l : List Ses) (now : Int) : Ses := match bst l now l.length with
  | none => zs
  | some j => nth l j

def bestB (l : List Ses) (now : Int) : Bool := (bst l now l.length).isSome

theorem below_dn {b : Nat} {w w' : World} (h : Below b w w') (n : Nat) : Below b w (w'.drewN n) := ⟨h.os, h.tape, h.output, h.size, h.block⟩

theorem results_ses {fn : Func} {p u : Tmp} (h : fn.results = #[.cell p 46, .tmp u]) (tmps : Array Value) (w : World) (g : Nat) (s : Ses)
    (hp : tmps.getD p undef = .pointer (some ⟨g, 0, none⟩)) (hg : w.heap[g]? = some (.cells s.arr 46 (0, 0))) :
    (results fn tmps).run Tryd.prog w = .ok (.tuple #[.agg s.arr, tmps.getD u undef]) w := by
  rw [results_cell_tmp h, hp]
  simp only [asAddr, Sem.run_pure, Result.andThen_ok, run_loadVar_row w g _ 46 _ _ _ hg Tryd.underlying46 rfl (sesSize s)]

theorem load_ses (w : World) (g o : Nat) (s : Ses) (h : At w g o s) : (Instr.loadAt 46 (.pointer (some ⟨g, o, none⟩))).run Tryd.prog w = .ok (.agg s.arr) w :=
  run_loadAt_mid w g o 46 s.cells _ h Tryd.underlying46 rfl (sesSize s)

set_option maxRecDepth 100000 in
set_option maxHeartbeats 4000000 in
theorem best_any (v : Value) (l : List Ses) (now : Int) (w : World) (hR : RdS w v l) (hf : ∀ s ∈ l, s.fits) :
    Calls Tryd.prog 18 #[v, .int .i64 now] w fun e w' => e = .returned (.tuple #[.agg (bestS l now).arr, .bool (bestB l now)]) ∧ Below w.heap.size w w' := by
  obtain ⟨a, cap, rfl, hc, hm, hcell⟩ := hR
  unfold maxLen at hm
  have HC : Hid (0 < l.length → ∃ g o, a = some ⟨g, o, none⟩ ∧ ∀ j (hj : j < l.length), At w g (o + j * 12) l[j]) := hcell
  have HF : Hid (∀ s ∈ l, s.fits) := hf
  clear hcell hf
  have HZ : Hid ((w.alloc (.cells zs.arr 46)).heap[w.heap.size]? = some (.cells zs.arr 46 (0, 0))) := heap_alloc_new _ _
  go_enter Tryd.func18, Tryd.ntmps18
  go_wp2
  go_loopw [6, 10] (fun bv iv wr => ∃ k : Nat, k ≤ l.length ∧ iv = .int .i64 k ∧ bv = .int .i64 (bi (bst l now k)) ∧ Hid (wr.heap[w.heap.size]? = some (.cells zs.arr 46 (0, 0))) ∧ Below w.heap.size w wr) (fun _ iv _ => l.length - (intOf iv).toNat)
  case atStart => exact ⟨0, Nat.zero_le _, rfl, rfl, HZ, (Below.refl _ _).alloc (Nat.le_refl _) _⟩
  case round =>
    clear HZ
    obtain ⟨k, hk, rfl, rfl, hz, hB⟩ := hrel
    by_cases hp : k < l.length
    · obtain ⟨g, o, rfl, hcj⟩ := HC.out (Nat.lt_of_le_of_lt (Nat.zero_le _) hp)
      have hAk : Hid (At wr g (o + k * 12) (nth l k)) := by
        show At _ _ _ _
        rw [nth_eq hp]; exact (hcj k hp).below hB (hcj k hp).lt
      have d10 := hAk.out 10 _ rfl
      by_cases hd : (nth l k).deadline ≤ now
      · have HS : Hid (bst l now (k + 1) = bst l now k) := by show _ = _; rw [bst, if_pos hd]
        have HK : Hid (bi (bst l now k) = bi (bst l now (k + 1))) := by show _ = _; rw [HS.out]
        generalize (nth l k).deadline = d at *
        obtain ⟨bk, HBK⟩ : ∃ bk, Hid (bi (bst l now k) = bk) := ⟨_, rfl⟩
        rw [HBK.out]
        go_wp2
        refine ⟨⟨k + 1, by omega, by go_num, by rw [← HBK.out, HK.out], hz, hB⟩, ?_⟩
        simp [intOf]; omega
      · cases hj : bst l now k with
        | none =>
          have HS : Hid (bst l now (k + 1) = some k) := by show _ = _; rw [bst, if_neg hd, hj]
          generalize (nth l k).deadline = d at *
          clear hj
          unfold bi
          go_wp2_with fail
          go_quiet (fail)
          go_wp2
          go_roundw
          case rel => exact ⟨k + 1, by omega, by go_num, by rw [HS.out], hz, below_dn hB _⟩
          case measure => simp [intOf]; omega
        | some j =>
          obtain ⟨hjk, _⟩ := bst_lt hj
          have hAj : Hid (At wr g (o + j * 12) (nth l j)) := by
            show At _ _ _ _
            rw [nth_eq (by omega)]; exact (hcj j (by omega)).below hB (hcj j (by omega)).lt
          have hgl : g < wr.heap.size := hAj.out.lt
          have CO : Hid (∀ w1, Below wr.heap.size wr w1 → Calls Tryd.prog 26 #[.pointer (some ⟨g, o + k * 12, none⟩), .pointer (some ⟨g, o + j * 12, none⟩)] w1 fun e w' => e = .returned (.int .i64 (ordI (nth l k) (nth l j))) ∧ Below w1.heap.size w1 w') := fun w1 h1 => order_any _ _ _ _ _ _ w1 (hAk.out.below h1 hgl) (hAj.out.below h1 hgl)
          have hBr := Below.refl wr.heap.size wr
          have j1 : ¬ (j : Int) < 0 := by omega
          have j2 : j < l.length := by omega
          have hop := ordI_pos (nth l k) (nth l j)
          cases hb : betterB (nth l k) (nth l j) with
          | true =>
            have HS : Hid (bst l now (k + 1) = some k) := by show _ = _; rw [bst, if_neg hd, hj]; simp [hb]
            rw [hb] at hop
            have hop' : 0 < ordI (nth l k) (nth l j) := by simpa using hop
            clear hop hb hj
            generalize ordI (nth l k) (nth l j) = od at *
            generalize (nth l k).deadline = d at *
            unfold bi
            go_wp2_with fail
            go_region_held3 (fun w' => Below wr.heap.size wr w') (first | assumption | exact Below.drew (by assumption)) (first | (go_at_call 26; refine (CO.out _ (by first | assumption | exact Below.drew (by assumption))).mono ?_; rintro e w2 ⟨rfl, hq⟩; have hS2 : Below wr.heap.size wr w2 := hBr.drew.trans (hq.mono (Nat.le_refl _))))
            go_wp2
            go_roundw
            case rel => exact ⟨k + 1, by omega, by go_num, by rw [HS.out], (hS2.block _ (Array.getElem?_eq_some_iff.1 hz.out).1).trans hz.out, hB.trans (hS2.mono hB.size)⟩
            case measure => simp [intOf]; omega
          | false =>
            have HS : Hid (bst l now (k + 1) = some j) := by show _ = _; rw [bst, if_neg hd, hj]; simp [hb]
            rw [hb] at hop
            have hop' : ¬ 0 < ordI (nth l k) (nth l j) := by simpa using hop
            clear hop hb hj
            generalize ordI (nth l k) (nth l j) = od at *
            generalize (nth l k).deadline = d at *
            unfold bi
            go_wp2_with fail
            go_region_held3 (fun w' => Below wr.heap.size wr w') (first | assumption | exact Below.drew (by assumption)) (first | (go_at_call 26; refine (CO.out _ (by first | assumption | exact Below.drew (by assumption))).mono ?_; rintro e w2 ⟨rfl, hq⟩; have hS2 : Below wr.heap.size wr w2 := hBr.drew.trans (hq.mono (Nat.le_refl _))))
            go_wp2
            go_roundw
            case rel => exact ⟨k + 1, by omega, by go_num, by rw [HS.out], (hS2.block _ (Array.getElem?_eq_some_iff.1 hz.out).1).trans hz.out, hB.trans (hS2.mono hB.size)⟩
            case measure => simp [intOf]; omega
    · obtain rfl : k = l.length := by omega
      cases hj : bst l now l.length with
      | none =>
        have HE : Hid (bestS l now = zs ∧ bestB l now = false) := by
          show _ ∧ _
          unfold bestS bestB
          rw [hj]; exact ⟨rfl, rfl⟩
        unfold bi
        clear hj
        have A := at_block hz.out
        have zf : ∀ i, wr.frozen? ⟨w.heap.size, i, none⟩ = false := by
          intro i
          simp [World.frozen?, hz.out]
        have z0 := A 0 _ rfl
        have z1 := A 1 _ rfl
        have z2 := A 2 _ rfl
        have z3 := A 3 _ rfl
        have z4 := A 4 _ rfl
        have z5 := A 5 _ rfl
        have z6 := A 6 _ rfl
        have z7 := A 7 _ rfl
        have z8 := A 8 _ rfl
        have z9 := A 9 _ rfl
        have z10 := A 10 _ rfl
        have z11 := A 11 _ rfl
        clear A
        go_wp2
        refine bodyPost_ret (results_ses rfl _ _ w.heap.size zs rfl (putS_heap (z := zs) zs hz.out)) rfl ?_
        exact ⟨by rw [HE.out.1, HE.out.2]; rfl, putS_below zs hB (Nat.le_refl _)⟩
      | some j =>
        obtain ⟨hjk, _⟩ := bst_lt hj
        obtain ⟨g, o, rfl, hcj⟩ := HC.out (by omega)
        have hAj : Hid (At wr g (o + j * 12) (nth l j)) := by
          show At _ _ _ _
          rw [nth_eq (by omega)]; exact (hcj j (by omega)).below hB (hcj j (by omega)).lt
        have co := own_any (nth l j) wr (by rw [nth_eq hjk]; exact HF.out _ (List.getElem_mem _))
        have HE : Hid (bestS l now = nth l j ∧ bestB l now = true) := by
          show _ ∧ _
          unfold bestS bestB
          rw [hj]; exact ⟨rfl, rfl⟩
        clear hj hcj
        generalize nth l j = x at *
        unfold bi
        have j1 : ¬ (j : Int) < 0 := by omega
        obtain ⟨f0, f1, f2, f3, f4, f5, f6, f7, f8, f9, f10, f11⟩ := x
        simp only [Ses.arr] at co
        have c0 : wr.cell? ⟨g, o + j * 12, none⟩ = some (.int .i64 f0) := hAj.out 0 _ rfl
        have c1 := hAj.out 1 _ rfl
        have c2 := hAj.out 2 _ rfl
        have c3 := hAj.out 3 _ rfl
        have c4 := hAj.out 4 _ rfl
        have c5 := hAj.out 5 _ rfl
        have c6 := hAj.out 6 _ rfl
        have c7 := hAj.out 7 _ rfl
        have c8 := hAj.out 8 _ rfl
        have c9 := hAj.out 9 _ rfl
        have c10 := hAj.out 10 _ rfl
        have c11 := hAj.out 11 _ rfl
        go_wp2_with fail
        refine co.mono ?_
        rintro e w3 ⟨rfl, hq⟩
        have hz3 : Hid (w3.heap[w.heap.size]? = some (.cells zs.arr 46 (0, 0))) := (hq.block _ (Array.getElem?_eq_some_iff.1 hz.out).1).trans hz.out
        have hB3 := hB.trans (hq.mono hB.size)
        have A := at_block hz3.out
        have zf : ∀ i, w3.frozen? ⟨w.heap.size, i, none⟩ = false := by
          intro i
          simp [World.frozen?, hz3.out]
        have z0 := A 0 _ rfl
        have z1 := A 1 _ rfl
        have z2 := A 2 _ rfl
        have z3 := A 3 _ rfl
        have z4 := A 4 _ rfl
        have z5 := A 5 _ rfl
        have z6 := A 6 _ rfl
        have z7 := A 7 _ rfl
        have z8 := A 8 _ rfl
        have z9 := A 9 _ rfl
        have z10 := A 10 _ rfl
        have z11 := A 11 _ rfl
        clear A hq
        go_wp2
        refine bodyPost_ret (results_ses rfl _ _ w.heap.size ⟨f0, f1, f2, f3, f4, f5, f6, f7, f8, f9, f10, f11⟩ rfl (putS_heap (z := zs) ⟨f0, f1, f2, f3, f4, f5, f6, f7, f8, f9, f10, f11⟩ hz3.out)) rfl ?_
        exact ⟨by rw [HE.out.1, HE.out.2]; rfl, putS_below ⟨f0, f1, f2, f3, f4, f5, f6, f7, f8, f9, f10, f11⟩ hB3 (Nat.le_refl _)⟩
end Lv
end Go.Proofs.YtfhnfejghngoeaaDoor
