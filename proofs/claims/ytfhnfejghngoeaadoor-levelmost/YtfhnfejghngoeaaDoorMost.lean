/- The walk of LevelMost. -/
import Derived.Test.YtfhnfejghngoeaaDoorMostTTx
import Derived.Test.YtfhnfejghngoeaaDoorMostTTy
import Derived.Test.YtfhnfejghngoeaaDoorMostTFx
import Derived.Test.YtfhnfejghngoeaaDoorMostFTy
import Derived.Test.YtfhnfejghngoeaaDoorMostFFn
import Derived.Test.YtfhnfejghngoeaaDoorLawsS
namespace Go.Proofs.YtfhnfejghngoeaaDoor
set_option linter.ambiguousOpen false
open Go.RowKit
namespace Lv
set_option linter.unusedSimpArgs false
set_option linter.unusedVariables false

set_option maxRecDepth 100000 in
theorem most_big (aA aB : Option Addr) (lenA capA lenB capB : Nat) (now : Int) (w : World) (hN : NamesG w) (h : 1000 < lenA ∨ 1000 < lenB) (hA : lenA ≤ 9223372036854775807) (hB : lenB ≤ 9223372036854775807) :
    Calls Tryd.prog 6 #[.slice aA lenA capA, .slice aB lenB capB, .int .i64 now] w fun e w' => e = .returned (.bool true) ∧ Below w.heap.size w w' := by
  have c := works_any w hN
  clear hN
  by_cases h1 : 1000 < lenA
  · clear h
    have h1' : (1000 : Int) < (lenA : Int) := by omega
    go_enter Tryd.func6, Tryd.ntmps6
    go_wp2_with (go_at_call 17; refine c.mono ?_; rintro e w1 ⟨rfl, hb⟩)
    go_ret
    exact ⟨rfl, hb⟩
  · have h2 : 1000 < lenB := by omega
    clear h
    have h1' : ¬ (1000 : Int) < (lenA : Int) := by omega
    have h2' : (1000 : Int) < (lenB : Int) := by omega
    go_enter Tryd.func6, Tryd.ntmps6
    go_wp2_with (go_at_call 17; refine c.mono ?_; rintro e w1 ⟨rfl, hb⟩)
    go_ret
    exact ⟨rfl, hb⟩

theorem best_told {v : Value} {l : List Ses} {now : Int} {w : World} {s : Ses} {b : Bool} (hs : bestS l now = s) (hb : bestB l now = b) (hf : ∀ s ∈ l, s.fits) (hR : RdS w v l) :
    Calls Tryd.prog 18 #[v, .int .i64 now] w fun e w' => e = .returned (.tuple #[.agg s.arr, .bool b]) ∧ Below w.heap.size w w' := by
  have := best_any v l now w hR hf
  rw [hs, hb] at this
  exact this

theorem levelMost_walk (va : Value) (la : List Ses) (vb : Value) (lb : List Ses) (now : Int) (w : World) (hRa : RdS w va la) (hfa : ∀ s ∈ la, s.fits) (hza : la.length * 112 ≤ 140737488351232) (hna : ∀ m c, va = .slice none m c → c = 0) (hRb : RdS w vb lb) (hfb : ∀ s ∈ lb, s.fits) (hzb : lb.length * 112 ≤ 140737488351232) (hnb : ∀ m c, vb = .slice none m c → c = 0) (hn : -9223372036854775808 ≤ now ∧ now ≤ 9223372036854775807) (hN : NamesG w) :
    Calls Tryd.prog 6 #[va, vb, .int .i64 now] w fun e w' => e = .returned (.bool true) ∧ Below w.heap.size w w' := by
  by_cases big : 1000 < la.length ∨ 1000 < lb.length
  · obtain ⟨aA, capA, rfl, _⟩ := hRa
    obtain ⟨aB, capB, rfl, _⟩ := hRb
    exact most_big aA aB _ capA _ capB now w hN big (by omega) (by omega)
  · have hla : la.length ≤ 1000 := by omega
    have hlb : lb.length ≤ 1000 := by omega
    have hfz : ∀ s ∈ la ++ lb, s.fits := fun s hs => by
      rcases List.mem_append.1 hs with h | h
      · exact hfa s h
      · exact hfb s h
    have hft : ∀ s ∈ la ++ la, s.fits := fun s hs => by
      rcases List.mem_append.1 hs with h | h
      · exact hfa s h
      · exact hfa s h
    obtain ⟨ht1, ht2⟩ := most_twice la now
    obtain ⟨hz1, hz2⟩ := most_two la lb now
    cases hok : bestB la now with
    | true =>
      obtain ⟨hmem, hlive, hmost⟩ := most_some hok
      have hmost' : ∀ j, j < la.length → now < (nth la j).deadline → (nth la j).level ≤ (bestS la now).level := fun j hj hd => hmost _ (by rw [nth_eq hj]; exact List.getElem_mem hj) hd
      have cAm : ∀ w1, Below w.heap.size w w1 → Calls Tryd.prog 19 #[va, .agg (bestS la now).arr] w1 fun e w' => e = .returned (.bool true) ∧ Below w1.heap.size w1 w' := fun w1 h1 => among_yes va la _ w1 (hRa.below h1) hmem
      rw [hok] at ht2 hz1
      cases hfi : bestB lb now with
      | true =>
        rw [hfi] at hz1
        have key : bestS (la ++ lb) now = bestS la now ∨ (bestS (la ++ lb) now = bestS lb now ∧ bestS lb now ≠ bestS la now) := by
          rcases hz2 (by rw [hz1]; rfl) with ⟨_, h⟩ | ⟨_, h⟩
          · exact .inl h
          · by_cases e : bestS lb now = bestS la now
            · exact .inl (h.trans e)
            · exact .inr ⟨h, e⟩
        rcases key with hz | ⟨hz, hne⟩
        · generalize hx : bestS la now = x at *
          generalize hy : bestS lb now = y at *
          obtain ⟨f0, f1, f2, f3, f4, f5, f6, f7, f8, f9, f10, f11⟩ := x
          obtain ⟨b0, b1, b2, b3, b4, b5, b6, b7, b8, b9, b10, b11⟩ := y
          exact most_TTx va vb la lb now f0 f1 f2 f3 f4 f5 f6 f7 f8 f9 f10 f11 b0 b1 b2 b3 b4 b5 b6 b7 b8 b9 b10 b11 w hN hRa hRb hna hnb hla hlb hlive hmost' cAm (fun w1 h1 => best_told hx hok hfa (hRa.below h1)) (fun w1 h1 => best_told hy hfi hfb (hRb.below h1)) (fun v1 w1 h1 => best_told hz hz1 hfz h1) (fun v1 w1 h1 => best_told ht1 ht2 hft h1)
        · generalize hx : bestS la now = x at *
          generalize hy : bestS lb now = y at *
          obtain ⟨f0, f1, f2, f3, f4, f5, f6, f7, f8, f9, f10, f11⟩ := x
          obtain ⟨b0, b1, b2, b3, b4, b5, b6, b7, b8, b9, b10, b11⟩ := y
          exact most_TTy va vb la lb now f0 f1 f2 f3 f4 f5 f6 f7 f8 f9 f10 f11 b0 b1 b2 b3 b4 b5 b6 b7 b8 b9 b10 b11 w hN hRa hRb hna hnb hla hlb hlive hmost' cAm hne (fun w1 h1 => best_told hx hok hfa (hRa.below h1)) (fun w1 h1 => best_told hy hfi hfb (hRb.below h1)) (fun v1 w1 h1 => best_told hz hz1 hfz h1) (fun v1 w1 h1 => best_told ht1 ht2 hft h1)
      | false =>
        rw [hfi] at hz1 hz2
        have hz : bestS (la ++ lb) now = bestS la now := by
          rcases hz2 (by rw [hz1]; rfl) with ⟨_, h⟩ | ⟨h, _⟩
          · exact h
          · cases h
        generalize hx : bestS la now = x at *
        generalize hy : bestS lb now = y at *
        obtain ⟨f0, f1, f2, f3, f4, f5, f6, f7, f8, f9, f10, f11⟩ := x
        obtain ⟨b0, b1, b2, b3, b4, b5, b6, b7, b8, b9, b10, b11⟩ := y
        exact most_TFx va vb la lb now f0 f1 f2 f3 f4 f5 f6 f7 f8 f9 f10 f11 b0 b1 b2 b3 b4 b5 b6 b7 b8 b9 b10 b11 w hN hRa hRb hna hnb hla hlb hlive hmost' cAm (fun w1 h1 => best_told hx hok hfa (hRa.below h1)) (fun w1 h1 => best_told hy hfi hfb (hRb.below h1)) (fun v1 w1 h1 => best_told hz hz1 hfz h1) (fun v1 w1 h1 => best_told ht1 ht2 hft h1)
    | false =>
      obtain ⟨hx, hdead⟩ := most_none hok
      have hdead' : ∀ j, j < la.length → (nth la j).deadline ≤ now := fun j hj => hdead _ (by rw [nth_eq hj]; exact List.getElem_mem hj)
      rw [hok] at ht2 hz1 hz2
      rw [hx] at ht1
      cases hfi : bestB lb now with
      | true =>
        rw [hfi] at hz1
        have hz : bestS (la ++ lb) now = bestS lb now := by
          rcases hz2 (by rw [hz1]; rfl) with ⟨h, _⟩ | ⟨_, h⟩
          · cases h
          · exact h
        generalize hy : bestS lb now = y at *
        obtain ⟨b0, b1, b2, b3, b4, b5, b6, b7, b8, b9, b10, b11⟩ := y
        exact most_FTy va vb la lb now b0 b1 b2 b3 b4 b5 b6 b7 b8 b9 b10 b11 w hN hRa hRb hna hnb hla hlb hdead' (fun w1 h1 => best_told hx hok hfa (hRa.below h1)) (fun w1 h1 => best_told hy hfi hfb (hRb.below h1)) (fun v1 w1 h1 => best_told hz hz1 hfz h1) (fun v1 w1 h1 => best_told ht1 ht2 hft h1)
      | false =>
        rw [hfi] at hz1
        generalize hy : bestS lb now = y at *
        generalize hz : bestS (la ++ lb) now = z at *
        obtain ⟨b0, b1, b2, b3, b4, b5, b6, b7, b8, b9, b10, b11⟩ := y
        obtain ⟨c0, c1, c2, c3, c4, c5, c6, c7, c8, c9, c10, c11⟩ := z
        exact most_FFn va vb la lb now b0 b1 b2 b3 b4 b5 b6 b7 b8 b9 b10 b11 c0 c1 c2 c3 c4 c5 c6 c7 c8 c9 c10 c11 w hN hRa hRb hna hnb hla hlb hdead' (fun w1 h1 => best_told hx hok hfa (hRa.below h1)) (fun w1 h1 => best_told hy hfi hfb (hRb.below h1)) (fun v1 w1 h1 => best_told hz hz1 hfz h1) (fun v1 w1 h1 => best_told ht1 ht2 hft h1)

/-- A list that came in as nil has no room. -/
theorem sess_nil {H : Type} {enc : TypeId × Value → H} {W : World} {base : Nat} {sp : Nat → Bool} {held : Bool} {v : Value} {d : DataW H} {p : List MemPlace}
    (h : ∃ fuel, DataW.trod enc Tryd.prog W base sp held fuel 40 v.cells.toList = some (d, p)) : ∀ m c, v = .slice none m c → c = 0 := by
  rintro m c rfl
  obtain ⟨fuel, hf⟩ := h
  rcases Go.Deep.open_slice Tryd.underlying40 hf with ⟨hcs, _⟩ | ⟨a, len, cap, _, _, _, _, hcs, _⟩
  · simp [Value.cells] at hcs
    exact hcs.2
  · simp [Value.cells] at hcs
end Lv
end Go.Proofs.YtfhnfejghngoeaaDoor
