/- Lists of acts that came in (each a kind, a place, an epoch and a row of bytes), and a place that came in, where each row is of a size that may be. -/
import Derived.Test.YtlgjnefieflmbaaDoorAreK
import Derived.Test.YtlgjnefieflmbaaDoorAreW
import Derived.Test.YtlgjnefieflmbaaDoorLawsB
import Derived.Deep.Slices
import Derived.Deep.Strs
import Derived.ProofKit
namespace Go.Proofs.YtlgjnefieflmbaaDoor
set_option linter.ambiguousOpen false
open Go.ChangeShapes Go.WideShapes Go.ChangeAt Go.RowKit
set_option linter.unusedVariables false
set_option maxRecDepth 100000
namespace Ae
open Sm Pk

theorem cellsRow : Tryd.prog.cellsOf 33 = 1 := by kernel_rfl

theorem cellsByte : Tryd.prog.cellsOf 5 = 1 := by kernel_rfl

theorem cellsInt : Tryd.prog.cellsOf 3 = 1 := by kernel_rfl

theorem cellsU32 : Tryd.prog.cellsOf 32 = 1 := by kernel_rfl

theorem cellsAct : Tryd.prog.cellsOf 35 = 5 := by kernel_rfl

theorem cellsPlace : Tryd.prog.cellsOf 50 = 4 := by kernel_rfl

theorem bytesByte : Tryd.prog.bytesOf 5 = 1 := by kernel_rfl

theorem wfI {a : Int} (h : (Lit.int .i64 a).wf = true) : -9223372036854775808 ≤ a ∧ a ≤ 9223372036854775807 := by
  simp [Lit.wf, IntKind.min, IntKind.max, IntKind.bits, IntKind.signed] at h
  omega

theorem wfU {a : Int} (h : (Lit.int .u32 a).wf = true) : ∃ x : Nat, a = x ∧ x < 4294967296 := by
  simp [Lit.wf, IntKind.min, IntKind.max, IntKind.bits, IntKind.signed] at h
  exact ⟨a.toNat, by omega, by omega⟩

theorem wfB {a : Int} (h : (Lit.int .u8 a).wf = true) : ∃ c : UInt8, (Value.int .u8 a) = by1 c := by
  have h' : 0 ≤ a ∧ a < 256 := by
    simp [Lit.wf, IntKind.min, IntKind.max, IntKind.bits, IntKind.signed] at h
    omega
  refine ⟨UInt8.ofNat a.toNat, ?_⟩
  show _ = Value.int .u8 _
  rw [UInt8.toNat_ofNat_of_lt' (by omega : a.toNat < 2 ^ 8)]
  congr 1
  omega

/-- An address whose cells lie there is a plain one. -/
theorem plainAddr {W : World} {a : Addr} {v : Value} (h : W.cell? (a.add 0) = some v) : ∃ g o, a = ⟨g, o, none⟩ ∧ g < W.heap.size := by
  have e0 : a.add 0 = a := by simp [Addr.add]
  rw [e0] at h
  obtain ⟨g, o, sp⟩ := a
  have hsp : sp = none := by
    unfold World.cell? at h
    split at h
    · cases sp with
      | none => rfl
      | some x => simp at h
    · cases h
  subst hsp
  refine ⟨g, o, rfl, ?_⟩
  rcases Nat.lt_or_ge g W.heap.size with h' | h'
  · exact h'
  · simp [World.cell?, Array.getElem?_eq_none h'] at h

theorem row_trod {H : Type} {enc : TypeId × Value → H} {W : World} {base : Nat} {sp : Nat → Bool} {held : Bool} {fuel : Nat} {V : Value} {D : DataW H} {Pl : List MemPlace}
    (h : DataW.trod enc Tryd.prog W base sp held fuel 33 [V] = some (D, Pl)) (hw : ∀ x ∈ D.weights Tryd.prog 33, x ≤ reachBytes) : ∃ l, RdB W V l ∧ Nz V ∧ l.length ≤ 140737488351232 := by
  rcases Go.Deep.open_slice1 Tryd.underlying33 cellsByte h with ⟨hcs, hx⟩ | ⟨a, len, cap, m, n, V', D', Pl', hcs, hb, hl, hm, hme, hx, hel⟩
  · obtain rfl : V = .slice none 0 0 := by simpa using hcs
    exact ⟨[], ⟨none, 0, rfl, Nat.le_refl _, by decide, fun h => by simp at h⟩, .inl rfl, by simp⟩
  · obtain rfl : V = .slice (some a) len cap := by simpa using hcs
    have hmm : len ≤ m := by rw [hme]; split <;> omega
    have hle : len ≤ 140737488351232 := by
      rw [(Prod.mk.inj hx).1] at hw
      simp only [DataW.weights, Tryd.underlying33] at hw
      have := hw _ (List.mem_cons_self ..)
      rw [bytesByte] at this
      simp [reachBytes] at this
      omega
    rcases Nat.eq_zero_or_pos len with h0 | h0
    · subst h0
      exact ⟨[], ⟨some a, cap, rfl, hl, hm, fun h => by simp at h⟩, .inr ⟨a, 0, cap, rfl⟩, by simp⟩
    · have hs : ∀ i, i < len → ∃ b : UInt8, W.cell? (a.add i) = some (by1 b) := fun i hi => by
        obtain ⟨h1, h2⟩ := hel i (by omega)
        obtain ⟨b, e, _, hw⟩ := DataW.trod_int Tryd.underlying5 h2
        have e' : V' i = .int .u8 b := by simpa using e
        obtain ⟨c, hc⟩ := wfB hw
        rw [e', hc] at h1
        exact ⟨c, h1⟩
      obtain ⟨f, hf⟩ := Go.Deep.choose_lt hs
      obtain ⟨g, o, rfl, hgl⟩ := plainAddr (hf 0 h0)
      refine ⟨(List.range len).map f, ⟨_, cap, by simp, by simpa using hl, hm, fun _ => ⟨g, o, rfl, hgl, fun j hj => ?_⟩⟩, .inr ⟨_, len, cap, rfl⟩, by simpa using hle⟩
      have hj' : j < len := by simpa using hj
      have := hf j hj'
      rw [Addr.add_mid] at this
      simpa using this

theorem bytes5_any {H : Type} {enc : TypeId × Value → H} {W : World} {base : Nat} {sp : Nat → Bool} {held : Bool} {v : Value} {d : DataW H} {p : List MemPlace}
    (hv : ∃ a len cap, v = .slice a len cap) (h : ∃ fuel, DataW.trod enc Tryd.prog W base sp held fuel 33 v.cells.toList = some (d, p)) (hw : ∀ x ∈ d.weights Tryd.prog 33, x ≤ reachBytes) : ∃ l, RdB W v l ∧ Nz v ∧ l.length ≤ 140737488351232 := by
  obtain ⟨a0, len0, cap0, rfl⟩ := hv
  obtain ⟨fuel, hf⟩ := h
  have hf' : DataW.trod enc Tryd.prog W base sp held fuel 33 [.slice a0 len0 cap0] = some (d, p) := hf
  exact row_trod hf' hw

theorem weights_mem {H : Type} {P : Program} {e : TypeId} : ∀ {l : List (DataW H)} {d : DataW H}, d ∈ l → ∀ x ∈ d.weights P e, x ∈ DataW.weightsAll P e l
  | [], _, h, _, _ => by simp at h
  | y :: r, d, h, x, hx => by
    rw [DataW.weightsAll, List.mem_append]
    rcases List.mem_cons.1 h with rfl | h
    · exact .inl hx
    · exact .inr (weights_mem h x hx)

theorem acts5_any {H : Type} {enc : TypeId × Value → H} {W : World} {base : Nat} {sp : Nat → Bool} {held : Bool} {v : Value} {d : DataW H} {p : List MemPlace}
    (hv : ∃ a len cap, v = .slice a len cap) (h : ∃ fuel, DataW.trod enc Tryd.prog W base sp held fuel 22 v.cells.toList = some (d, p)) (hw : ∀ x ∈ d.weights Tryd.prog 22, x ≤ reachBytes) :
    ∃ L, RdN W v L ∧ ∀ x ∈ L, x.fits := by
  obtain ⟨a0, len0, cap0, rfl⟩ := hv
  obtain ⟨fuel, hf⟩ := h
  have hf' : DataW.trod enc Tryd.prog W base sp held fuel 22 [.slice a0 len0 cap0] = some (d, p) := hf
  rcases Go.Deep.open_slice Tryd.underlying22 hf' with ⟨hcs, hx⟩ | ⟨a, len, cap, m, n, D', Pl', hcs, hb, hl, hm, hme, hx, hel⟩
  · obtain ⟨rfl, rfl, rfl⟩ : a0 = none ∧ len0 = 0 ∧ cap0 = 0 := by simpa using hcs
    exact ⟨[], ⟨none, 0, rfl, Nat.le_refl _, by decide, fun h => by simp at h⟩, by simp⟩
  · obtain ⟨rfl, rfl, rfl⟩ : a0 = some a ∧ len0 = len ∧ cap0 = cap := by simpa using hcs
    have hmm : len0 ≤ m := by rw [hme]; split <;> omega
    rw [(Prod.mk.inj hx).1] at hw
    simp only [DataW.weights, Tryd.underlying22] at hw
    have hwi : ∀ i, i < len0 → ∀ x ∈ (D' i).weights Tryd.prog 35, x ≤ reachBytes := fun i hi x hx =>
      hw x (List.mem_cons_of_mem _ (List.mem_append_left _ (weights_mem (List.mem_map.2 ⟨i, List.mem_range.2 hi, rfl⟩) x hx)))
    have hs : ∀ i, i < len0 → ∃ x : Actn, (W.cell? (a.add (i * 5)) = some (nu x.k) ∧ W.cell? ((a.add (i * 5)).add 1) = some (nu x.a) ∧ W.cell? ((a.add (i * 5)).add 2) = some (nu x.n) ∧ W.cell? ((a.add (i * 5)).add 3) = some (.int .u32 (x.ep : Int)) ∧ ∃ u, W.cell? ((a.add (i * 5)).add 4) = some u ∧ RdB W u x.p ∧ Nz u) ∧ x.fits := fun i hi => by
      obtain ⟨cs, h1, h2⟩ := hel i (by omega)
      rw [cellsAct] at h1
      obtain ⟨xs, n', _, hx', hl', hlen, hff⟩ := DataW.trod_struct Tryd.underlying35 h2
      rw [cellsAct] at hl'
      obtain ⟨_, hlen', hcell⟩ := World.cells?_some h1
      match xs, hlen with
      | [y0, y1, y2, y3, y4], _ =>
      match cs, hl' with
      | [c0, c1, c2, c3, c4], _ =>
        have e0 : DataW.trod enc Tryd.prog W base sp held n' 3 [c0] = some y0 := by
          have := hff 0 _ rfl
          simpa [cellsInt] using this
        have e1 : DataW.trod enc Tryd.prog W base sp held n' 3 [c1] = some y1 := by
          have := hff 1 _ rfl
          simpa [cellsInt] using this
        have e2 : DataW.trod enc Tryd.prog W base sp held n' 3 [c2] = some y2 := by
          have := hff 2 _ rfl
          simpa [cellsInt] using this
        have e3 : DataW.trod enc Tryd.prog W base sp held n' 32 [c3] = some y3 := by
          have := hff 3 _ rfl
          simpa [cellsU32] using this
        have e4 : DataW.trod enc Tryd.prog W base sp held n' 33 [c4] = some (y4.1, y4.2) := by
          have := hff 4 _ rfl
          simpa [cellsRow] using this
        obtain ⟨t0, g0, _, w0⟩ := DataW.trod_int Tryd.underlying3 e0
        obtain ⟨t1, g1, _, w1⟩ := DataW.trod_int Tryd.underlying3 e1
        obtain ⟨t2, g2, _, w2⟩ := DataW.trod_int Tryd.underlying3 e2
        obtain ⟨t3, g3, _, w3⟩ := DataW.trod_int Tryd.underlying32 e3
        have hw4 : ∀ x ∈ y4.1.weights Tryd.prog 33, x ≤ reachBytes := fun x hxx => by
          refine hwi i hi x ?_
          rw [(Prod.mk.inj hx').1]
          simp only [DataW.weights, Tryd.underlying35]
          simp [DataW.weightsEach]
          simp [hxx]
        obtain ⟨l, r1, r2, r3⟩ := row_trod e4 hw4
        obtain rfl : c0 = .int .i64 t0 := by simpa using g0
        obtain rfl : c1 = .int .i64 t1 := by simpa using g1
        obtain rfl : c2 = .int .i64 t2 := by simpa using g2
        obtain ⟨e, rfl, he⟩ := wfU w3
        obtain rfl : c3 = .int .u32 (e : Int) := by simpa using g3
        have k0 := hcell 0 (by decide)
        have k1 := hcell 1 (by decide)
        have k2 := hcell 2 (by decide)
        have k3 := hcell 3 (by decide)
        have k4 := hcell 4 (by decide)
        rw [Go.Deep.add_add] at k0
        exact ⟨⟨t0, t1, t2, e, l⟩, ⟨k0, k1, k2, k3, c4, k4, r1, r2⟩, wfI w0, wfI w1, wfI w2, he, r3⟩
    haveI : Inhabited Actn := ⟨⟨0, 0, 0, 0, []⟩⟩
    obtain ⟨f, hf⟩ := Go.Deep.choose_lt hs
    refine ⟨(List.range len0).map f, ⟨some a, cap0, by simp, by simpa using hl, hm, fun h0 => ?_⟩, ?_⟩
    · have h0' : 0 < len0 := by simpa using h0
      have hc0 := (hf 0 h0').1.1
      rw [Nat.zero_mul] at hc0
      obtain ⟨g, o, rfl, hgl⟩ := plainAddr hc0
      refine ⟨g, o, rfl, hgl, fun i x hx => ?_⟩
      rw [List.getElem?_map] at hx
      obtain ⟨k, hk, rfl⟩ := Option.map_eq_some_iff.1 hx
      obtain ⟨hk1, rfl⟩ := List.getElem?_eq_some_iff.1 hk
      simp only [List.getElem_range]
      obtain ⟨q0, q1, q2, q3, u, q4, q5, q6⟩ := (hf i (by simpa using hk1)).1
      rw [Addr.add_mid] at q0 q1 q2 q3 q4
      rw [Addr.add_mid] at q1 q2 q3 q4
      exact ⟨q0, q1, q2, q3, u, q4, q5, q6⟩
    · intro x hx
      obtain ⟨i, hi', rfl⟩ := List.mem_map.1 hx
      exact (hf i (by simpa using hi')).2

theorem each_mem {H : Type} {P : Program} : ∀ {ts : List TypeId} {ds : List (DataW H)} {j : Nat} {t : TypeId} {d : DataW H}, ts[j]? = some t → ds[j]? = some d → ∀ x ∈ d.weights P t, x ∈ DataW.weightsEach P ts ds
  | [], _, _, _, _, h, _, _, _ => by simp at h
  | _ :: _, [], _, _, _, _, h, _, _ => by simp at h
  | t0 :: ts, d0 :: ds, 0, t, d, h1, h2, x, hx => by
    simp at h1 h2
    subst h1
    subst h2
    rw [DataW.weightsEach, List.mem_append]
    exact .inl hx
  | t0 :: ts, d0 :: ds, j + 1, t, d, h1, h2, x, hx => by
    rw [DataW.weightsEach, List.mem_append]
    exact .inr (each_mem (j := j) (by simpa using h1) (by simpa using h2) x hx)

theorem sized_of {H : Type} {P : Program} {ts : List TypeId} {ds : List (DataW H)} {j : Nat} {t : TypeId} {d : DataW H} (hsz : (DataW.weightsEach P ts ds).all (· ≤ reachBytes) = true) (ht : ts[j]? = some t) (hd : ds[j]? = some d) : ∀ x ∈ d.weights P t, x ≤ reachBytes := fun x hx => by
  have := List.all_eq_true.1 hsz x (each_mem ht hd x hx)
  simpa using this

theorem place_any {H : Type} {enc : TypeId × Value → H} {W : World} {base b0 : Nat} {r : Reach} {sp : Nat → Bool} {held : Bool} {v : Value} {d : DataW H} {p : List MemPlace}
    (hv : Value.okWide Tryd.prog W r b0 50 v) (h : ∃ fuel, DataW.trod enc Tryd.prog W base sp held fuel 50 v.cells.toList = some (d, p)) (hw : ∀ x ∈ d.weights Tryd.prog 50, x ≤ reachBytes) :
    ∃ (a n : Int) (ep : Nat) (pv : Value) (x : List UInt8), v = .agg (plC a n ep pv) ∧ (-9223372036854775808 ≤ a ∧ a ≤ 9223372036854775807) ∧ (-9223372036854775808 ≤ n ∧ n ≤ 9223372036854775807) ∧ ep < 4294967296 ∧ RdB W pv x ∧ Nz pv ∧ x.length ≤ 140737488351232 := by
  obtain ⟨cs, rfl, hsz⟩ := okWide_struct Tryd.underlying50 hv
  obtain ⟨fuel, hf⟩ := h
  have hc : (Value.agg cs).cells.toList = cs.toList := rfl
  rw [hc] at hf
  obtain ⟨xs, n', _, hx', hl', hlen, hff⟩ := DataW.trod_struct Tryd.underlying50 hf
  rw [cellsPlace] at hl'
  obtain ⟨cs⟩ := cs
  match xs, hlen with
  | [y0, y1, y2, y3], _ =>
  match cs, hl' with
  | [c0, c1, c2, c3], _ =>
    have e0 : DataW.trod enc Tryd.prog W base sp held n' 3 [c0] = some y0 := by
      have := hff 0 _ rfl
      simpa [cellsInt] using this
    have e1 : DataW.trod enc Tryd.prog W base sp held n' 3 [c1] = some y1 := by
      have := hff 1 _ rfl
      simpa [cellsInt] using this
    have e2 : DataW.trod enc Tryd.prog W base sp held n' 32 [c2] = some y2 := by
      have := hff 2 _ rfl
      simpa [cellsU32] using this
    have e3 : DataW.trod enc Tryd.prog W base sp held n' 33 [c3] = some (y3.1, y3.2) := by
      have := hff 3 _ rfl
      simpa [cellsRow] using this
    obtain ⟨t0, g0, _, w0⟩ := DataW.trod_int Tryd.underlying3 e0
    obtain ⟨t1, g1, _, w1⟩ := DataW.trod_int Tryd.underlying3 e1
    obtain ⟨t2, g2, _, w2⟩ := DataW.trod_int Tryd.underlying32 e2
    have hw3 : ∀ x ∈ y3.1.weights Tryd.prog 33, x ≤ reachBytes := fun x hxx => by
      refine hw x ?_
      rw [(Prod.mk.inj hx').1]
      simp only [DataW.weights, Tryd.underlying50]
      simp [DataW.weightsEach]
      simp [hxx]
    obtain ⟨l, r1, r2, r3⟩ := row_trod e3 hw3
    obtain rfl : c0 = .int .i64 t0 := by simpa using g0
    obtain rfl : c1 = .int .i64 t1 := by simpa using g1
    obtain ⟨e, rfl, he⟩ := wfU w2
    obtain rfl : c2 = .int .u32 (e : Int) := by simpa using g2
    exact ⟨t0, t1, e, c3, l, rfl, wfI w0, wfI w1, he, r1, r2, r3⟩
end Ae
end Go.Proofs.YtlgjnefieflmbaaDoor
