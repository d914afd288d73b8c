/- The calls Dotted, Clone and Parts of package names, each as a plain function of the text's bytes. -/
import Derived.Test.YthdibodmnpcekaaCut
import Derived.Test.YthdibodmnpcekaaShelf
namespace Go.Proofs.Ythdibodmnpcekaa
open Go.RowKit
namespace Nm

theorem Try.info9 : (Try.prog.info? 9).map (fun i => (i.zero, i.size, i.bytes)) = some (some (.string ⟨#[]⟩), 1, 16) := by kernel_rfl

/-- What the call owns stays owned where nothing that was there turns. -/
theorem own_below {w w' : World} {base : Nat} {e : TypeId} {size : Nat} {v : Value} {n : Nat} {xs : List Value} (h : w.ownsRow base e size v n xs) (hb : Below w.heap.size w w') : w'.ownsRow base e size v n xs := by
  refine ⟨h.1, ?_⟩
  rcases h.2 with hn | ⟨g, cap, cur, rfl, hbg, hgg, rest⟩
  · exact .inl hn
  · refine .inr ⟨g, cap, cur, rfl, hbg, ?_, rest⟩
    rw [hb.block g (Array.getElem?_eq_some_iff.1 hgg).1]
    exact hgg

def lenOf : Value → Nat
  | .string s => s.size
  | _ => 0

def txt (p : List UInt8) : Value := .string (B p)

theorem below_then {w a b : World} (h : Below w.heap.size w a) (k : Below a.heap.size a b) : Below w.heap.size w b := h.trans (k.mono h.size)

theorem tl_le (l : List UInt8) : (tl l).length ≤ l.length := by
  induction l with
  | nil => simp [tl]
  | cons c l ih => unfold tl; split <;> simp <;> omega

set_option maxHeartbeats 400000 in
theorem clone_l (l : List UInt8) (w : World) (h : l.length ≤ 65536) :
    Calls Try.prog 30 #[.string (B l)] w fun e w' => e = .returned (.string (B l)) ∧ Below w.heap.size w w' := by
  go_enter Try.func30, Try.ntmps30
  go_wp2_with (go_at_call 42; refine (Try.stringslite_Clone _ _ (by exact Nat.le_trans h (by decide))).mono ?_; rintro e w1 ⟨rfl, hb1⟩)
  go_ret
  exact ⟨rfl, hb1⟩

theorem dotted_short {l : List UInt8} (h : dottedB l = true) : ∀ p ∈ pieces l, p.length ≤ 32 := by
  intro p hp
  simp only [dottedB, dotN, Bool.and_eq_true, List.all_eq_true] at h
  have := h.2 p hp
  simp only [nameB, Bool.and_eq_true, decide_eq_true_eq] at this
  exact this.1.2

theorem hd_mem (l : List UInt8) : hd l ∈ pieces l := by rw [pieces_eq]; simp

end Nm
end Go.Proofs.Ythdibodmnpcekaa
