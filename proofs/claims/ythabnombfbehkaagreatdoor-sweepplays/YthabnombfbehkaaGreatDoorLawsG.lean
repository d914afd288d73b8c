import Derived.Test.YthabnombfbehkaaGreatDoorShape
import Derived.Test.YthabnombfbehkaaGreatDoorSwpK
import Derived.ProofKit
/- Acts that came in: layer 19. -/
namespace Go.Proofs.YthabnombfbehkaaGreatDoor
set_option linter.ambiguousOpen false
open Go.ChangeShapes Go.WideShapes Go.ChangeAt Go.RowKit
set_option linter.unusedVariables false
set_option maxRecDepth 100000
namespace Sw
open An Rg Lv

theorem Tryz.laidOutX : laidOutB Tryz.prog = true := by kernel_rfl

theorem wf64 {a : Int} (h : (Lit.int .i64 a).wf = true) : I64 a := by
  simp [Lit.wf, IntKind.min, IntKind.max, IntKind.bits, IntKind.signed] at h
  unfold I64
  omega

theorem text_fits {x : ByteArray} (h : x.size ≤ reachBytes) : x.size ≤ 281474976710656 := Nat.le_trans h (by decide)

theorem act_shape : Fl.shape Tryz.prog 6 52 = [.i .i64, .i .i64, .b, .b, .i .i64, .i .i64, .i .i64, .i .i64, .i .i64, .i .i64, .i .i64, .i .i64, .s, .s, .i .u64, .i .i64, .i .i64, .i .i64, .i .i64] := by kernel_rfl

theorem act_ok : Fl.okT Tryz.prog 6 52 = true := by kernel_rfl

theorem act_cells : Tryz.prog.cellsOf 52 = 19 := by kernel_rfl

theorem act_of {cs : List Value} (h : Fl.M2 (Fl.shape Tryz.prog 6 52) cs) (hx : ∀ x : ByteArray, Value.string x ∈ cs → x.size ≤ reachBytes) : ∃ x : Gact, cs = x.cells ∧ x.fits := by
  rw [act_shape] at h
  obtain ⟨_, cs0, rfl, ⟨f0, rfl, w0⟩, g0⟩ := Fl.M2.out h
  obtain ⟨_, cs1, rfl, ⟨f1, rfl, w1⟩, g1⟩ := Fl.M2.out g0
  obtain ⟨_, cs2, rfl, ⟨f2, rfl⟩, g2⟩ := Fl.M2.out g1
  obtain ⟨_, cs3, rfl, ⟨f3, rfl⟩, g3⟩ := Fl.M2.out g2
  obtain ⟨_, cs4, rfl, ⟨f4, rfl, w4⟩, g4⟩ := Fl.M2.out g3
  obtain ⟨_, cs5, rfl, ⟨f5, rfl, w5⟩, g5⟩ := Fl.M2.out g4
  obtain ⟨_, cs6, rfl, ⟨f6, rfl, w6⟩, g6⟩ := Fl.M2.out g5
  obtain ⟨_, cs7, rfl, ⟨f7, rfl, w7⟩, g7⟩ := Fl.M2.out g6
  obtain ⟨_, cs8, rfl, ⟨f8, rfl, w8⟩, g8⟩ := Fl.M2.out g7
  obtain ⟨_, cs9, rfl, ⟨f9, rfl, w9⟩, g9⟩ := Fl.M2.out g8
  obtain ⟨_, cs10, rfl, ⟨f10, rfl, w10⟩, g10⟩ := Fl.M2.out g9
  obtain ⟨_, cs11, rfl, ⟨f11, rfl, w11⟩, g11⟩ := Fl.M2.out g10
  obtain ⟨_, cs12, rfl, ⟨f12, rfl, w12⟩, g12⟩ := Fl.M2.out g11
  obtain ⟨_, cs13, rfl, ⟨f13, rfl, w13⟩, g13⟩ := Fl.M2.out g12
  obtain ⟨_, cs14, rfl, ⟨f14, rfl, w14⟩, g14⟩ := Fl.M2.out g13
  obtain ⟨_, cs15, rfl, ⟨f15, rfl, w15⟩, g15⟩ := Fl.M2.out g14
  obtain ⟨_, cs16, rfl, ⟨f16, rfl, w16⟩, g16⟩ := Fl.M2.out g15
  obtain ⟨_, cs17, rfl, ⟨f17, rfl, w17⟩, g17⟩ := Fl.M2.out g16
  obtain ⟨_, cs18, rfl, ⟨f18, rfl, w18⟩, g18⟩ := Fl.M2.out g17
  obtain rfl := Fl.M2.nil g18
  exact ⟨⟨f0, f1, ⟨f2, f3, f4, f5, f6, ⟨f7, f8, f9, f10, f11, f12, f13, f14, f15, f16, f17, f18⟩, text_fits (hx f12 (by simp)), text_fits (hx f13 (by simp))⟩⟩, rfl, wf64 w0, wf64 w1⟩

/-- An address whose cell lies there lies in the heap. -/
theorem range_in {W : World} {g o : Nat} {v : Value} {vs : List Value} (h : W.rangeAt g o (v :: vs)) : g < W.heap.size := by
  have h0 := h 0 v rfl
  rcases Nat.lt_or_ge g W.heap.size with h' | h'
  · exact h'
  · simp [World.cell?, Array.getElem?_eq_none h'] at h0

theorem acts19_sized {H : Type} {enc : TypeId × Value → H} {W : World} {base : Nat} {sp : Nat → Bool} {held : Bool} {v : Value} {d : DataW H} {p : List MemPlace}
    (hv : ∃ a len cap, v = .slice a len cap) (h : ∃ fuel, DataW.trod enc Tryz.prog W base sp held fuel 22 v.cells.toList = some (d, p)) {ts : List TypeId} {ds : List (DataW H)} (hsz : (DataW.weightsEach Tryz.prog ts ds).all (· ≤ reachBytes) = true) (j : Nat) (ht : ts[j]? = some 22) (hd : ds[j]? = some d) :
    ∃ L, RdG W v L ∧ ∀ x ∈ L, x.fits := by
  obtain ⟨a, len, cap, rfl, hl, hm, _, hc⟩ := Fl.rows_of 6 act_ok (by rw [act_cells]; omega) Tryz.underlying22 hv h hsz j ht hd
  rcases Nat.eq_zero_or_pos len with h0 | h0
  · subst h0
    exact ⟨[], ⟨a, cap, rfl, hl, hm, fun h => by simp at h⟩, by simp⟩
  · obtain ⟨g, o, rfl, hi⟩ := hc h0
    rw [act_cells] at hi
    have hs : ∀ i, i < len → ∃ x : Gact, W.rangeAt g (o + i * 19) (x.cells) ∧ x.fits := fun i hil => by
      obtain ⟨cs, h1, _, h3, h4⟩ := hi i hil
      obtain ⟨x, rfl, hx⟩ := act_of h3 h4
      exact ⟨x, h1, hx⟩
    haveI : Inhabited Gact := ⟨⟨0, 0, slt0⟩⟩
    obtain ⟨f, hf⟩ := Go.Deep.choose_lt hs
    refine ⟨(List.range len).map f, ⟨_, cap, by simp, by simpa using hl, hm, fun _ => ⟨g, o, rfl, range_in (hf 0 h0).1, fun i x hx => ?_⟩⟩, ?_⟩
    · rw [List.getElem?_map, Option.map_eq_some_iff] at hx
      obtain ⟨k, hk, rfl⟩ := hx
      obtain ⟨hlt, rfl⟩ := List.getElem?_eq_some_iff.1 hk
      rw [List.getElem_range]
      exact (hf i (by simpa using hlt)).1
    · intro x hx
      obtain ⟨i, hi', rfl⟩ := List.mem_map.1 hx
      exact (hf i (by simpa using hi')).2

theorem wf_i64 {a : Int} (h : (Lit.int .i64 a).wf = true) : I64 a := wf64 h
end Sw
end Go.Proofs.YthabnombfbehkaaGreatDoor
