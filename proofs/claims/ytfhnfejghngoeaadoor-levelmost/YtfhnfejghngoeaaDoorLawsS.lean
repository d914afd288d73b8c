/- A list of sessions that came in, and its size. -/
import Derived.Test.YtfhnfejghngoeaaDoorShape
import Derived.Test.YtfhnfejghngoeaaDoorBest
import Derived.ProofKit
namespace Go.Proofs.YtfhnfejghngoeaaDoor
set_option linter.ambiguousOpen false
open Go.ChangeShapes Go.WideShapes Go.ChangeAt Go.RowKit
set_option linter.unusedVariables false
set_option maxRecDepth 100000

theorem Tryd.laidOutX : laidOutB Tryd.prog = true := by kernel_rfl

namespace Lv

theorem ses_shape : Fl.shape Tryd.prog 4 46 = [.i .i64, .i .i64, .i .i64, .i .i64, .i .i64, .s, .s, .i .u64, .i .i64, .i .i64, .i .i64, .i .i64] := by kernel_rfl

theorem ses_ok : Fl.okT Tryd.prog 4 46 = true := by kernel_rfl

theorem ses_cells : Tryd.prog.cellsOf 46 = 12 := by kernel_rfl

theorem ses_bytes : Tryd.prog.bytesOf 46 = 112 := by kernel_rfl

theorem ses_of {cs : List Value} (h : Fl.M2 (Fl.shape Tryd.prog 4 46) cs) : ∃ s : Ses, cs = s.cells := by
  rw [ses_shape] at h
  obtain ⟨_, cs0, rfl, ⟨f0, rfl, _⟩, g0⟩ := Fl.M2.out h
  obtain ⟨_, cs1, rfl, ⟨f1, rfl, _⟩, g1⟩ := Fl.M2.out g0
  obtain ⟨_, cs2, rfl, ⟨f2, rfl, _⟩, g2⟩ := Fl.M2.out g1
  obtain ⟨_, cs3, rfl, ⟨f3, rfl, _⟩, g3⟩ := Fl.M2.out g2
  obtain ⟨_, cs4, rfl, ⟨f4, rfl, _⟩, g4⟩ := Fl.M2.out g3
  obtain ⟨_, cs5, rfl, ⟨f5, rfl, _⟩, g5⟩ := Fl.M2.out g4
  obtain ⟨_, cs6, rfl, ⟨f6, rfl, _⟩, g6⟩ := Fl.M2.out g5
  obtain ⟨_, cs7, rfl, ⟨f7, rfl, _⟩, g7⟩ := Fl.M2.out g6
  obtain ⟨_, cs8, rfl, ⟨f8, rfl, _⟩, g8⟩ := Fl.M2.out g7
  obtain ⟨_, cs9, rfl, ⟨f9, rfl, _⟩, g9⟩ := Fl.M2.out g8
  obtain ⟨_, cs10, rfl, ⟨f10, rfl, _⟩, g10⟩ := Fl.M2.out g9
  obtain ⟨_, cs11, rfl, ⟨f11, rfl, _⟩, g11⟩ := Fl.M2.out g10
  obtain rfl := Fl.M2.nil g11
  exact ⟨⟨f0, f1, f2, f3, f4, f5, f6, f7, f8, f9, f10, f11⟩, rfl⟩

theorem sess_sized {H : Type} {enc : TypeId × Value → H} {W : World} {base : Nat} {sp : Nat → Bool} {held : Bool} {v : Value} {d : DataW H} {p : List MemPlace}
    (hv : ∃ a len cap, v = .slice a len cap) (h : ∃ fuel, DataW.trod enc Tryd.prog W base sp held fuel 40 v.cells.toList = some (d, p)) {ts : List TypeId} {ds : List (DataW H)} (hsz : (DataW.weightsEach Tryd.prog ts ds).all (· ≤ reachBytes) = true) (j : Nat) (ht : ts[j]? = some 40) (hd : ds[j]? = some d) :
    ∃ l, RdS W v l ∧ (∀ s ∈ l, s.fits) ∧ l.length * 112 ≤ 140737488351232 := by
  obtain ⟨a, len, cap, rfl, hl, hm, hz, hc⟩ := Fl.rows_of 4 ses_ok (by rw [ses_cells]; omega) Tryd.underlying40 hv h hsz j ht hd
  rw [ses_bytes] at hz
  have hz' : len * 112 ≤ 140737488351232 := hz
  rcases Nat.eq_zero_or_pos len with h0 | h0
  · subst h0
    exact ⟨[], ⟨a, cap, rfl, hl, hm, fun h => by simp at h⟩, by simp, by simp⟩
  · obtain ⟨g, o, rfl, hi⟩ := hc h0
    rw [ses_cells] at hi
    have hs : ∀ i, i < len → ∃ s : Ses, At W g (o + i * 12) s ∧ s.fits := fun i hil => by
      obtain ⟨cs, h1, h2, h3, h4⟩ := hi i hil
      obtain ⟨s, rfl⟩ := ses_of h3
      have hr : reachBytes ≤ 281474976710656 := by decide
      exact ⟨s, h1, Nat.le_trans (h4 s.user (by simp [Ses.cells])) hr, Nat.le_trans (h4 s.label (by simp [Ses.cells])) hr⟩
    haveI : Inhabited Ses := ⟨zs⟩
    obtain ⟨f, hf⟩ := Go.Deep.choose_lt hs
    refine ⟨(List.range len).map f, ⟨_, cap, by simp, by simpa using hl, hm, fun _ => ⟨g, o, rfl, fun j hj => ?_⟩⟩, ?_, by simpa using hz'⟩
    · have hj' : j < len := by simpa using hj
      simpa using (hf j hj').1
    · intro s hs'
      obtain ⟨i, hi', rfl⟩ := List.mem_map.1 hs'
      exact (hf i (by simpa using hi')).2
end Lv
end Go.Proofs.YtfhnfejghngoeaaDoor
