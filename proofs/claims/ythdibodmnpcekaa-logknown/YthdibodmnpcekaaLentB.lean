/- Rows of bytes that are lent with marks behind, and looked at again. -/
import Derived.Test.YthdibodmnpcekaaRegs
namespace Go.Proofs.Ythdibodmnpcekaa
set_option linter.ambiguousOpen false
open Go.RowKit
namespace Sm
set_option linter.unusedSimpArgs false
set_option linter.unusedVariables false

theorem info_byte : (Try.prog.info? 5).map (fun i => (i.zero, i.size, i.bytes)) = some (some (.int .u8 0), 1, 1) := by kernel_rfl

/-- The mark of a place. -/
def mkB (i : Int) : UInt8 := UInt8.ofNat ((3367 + i) % 256).toNat

def mksB (n : Nat) : List UInt8 := (List.range n).map (fun i : Nat => mkB i)

theorem mksB_len (n : Nat) : (mksB n).length = n := by simp [mksB]

theorem mksB_succ (n : Nat) : mksB (n + 1) = mksB n ++ [mkB n] := by simp [mksB, List.range_succ]

theorem mkB_val (i : Int) : ((mkB i).toNat : Int) = (3367 + i) % 256 := by
  unfold mkB
  have h : ((3367 + i) % 256).toNat < 256 := by omega
  rw [UInt8.toNat_ofNat', Nat.mod_eq_of_lt (by simpa using h)]
  omega

theorem own_posB {w : World} {base n : Nat} {v : Value} {e : TypeId} {xs : List Value} (h : w.ownsRow base e 1 v n xs) (hn : 0 < n) : ∃ g cap, v = .slice (some ⟨g, 0, none⟩) n cap ∧ n ≤ cap ∧ cap ≤ maxLen ∧ base ≤ g ∧ g < w.heap.size := by
  rcases h.2 with ⟨_, h0⟩ | ⟨g, cap, cur, rfl, h1, h2, h3, h4, _⟩
  · omega
  · exact ⟨g, cap, rfl, h3, h4, h1, (Array.getElem?_eq_some_iff.1 h2).1⟩

theorem row_atB {w : World} {base g cap n : Nat} {e : TypeId} {xs : List Value} (h : w.ownsRow base e 1 (.slice (some ⟨g, 0, none⟩) n cap) n xs) (k : Nat) (hk : k < n) (hx : k < xs.length) : w.cell? ⟨g, k, none⟩ = some xs[k] := by
  rcases h.2 with ⟨h0, _⟩ | ⟨g', cap', cur, hv, h1, h2, h3, h4, h5, h6⟩
  · cases h0
  · simp only [Value.slice.injEq, Option.some.injEq, Addr.mk.injEq, and_true, true_and] at hv
    obtain ⟨rfl, rfl⟩ := hv
    have hc : k < cur.size := by omega
    have e1 : xs[k] = cur[k] := by
      have : xs[k]? = (cur.toList.take (n * 1))[k]? := by rw [h6]
      rw [List.getElem?_eq_getElem hx, List.getElem?_take_of_lt (by omega), Array.getElem?_toList, Array.getElem?_eq_getElem hc] at this
      exact Option.some.inj this
    simp [World.cell?, h2, e1, Array.getElem?_eq_getElem hc]

theorem rdB_lent {w : World} {base g cap : Nat} {l : List UInt8} (hown : w.ownsRow base 5 1 (.slice (some ⟨g, 0, none⟩) (l.length + 16) cap) (l.length + 16) ((l ++ mksB 16).map by1)) (hcap : l.length + 16 ≤ cap) (hcm : cap ≤ maxLen) (hgl : g < w.heap.size) :
    RdB w (.slice (some ⟨g, 0, none⟩) l.length cap) l := by
  refine ⟨_, cap, rfl, by omega, hcm, fun _ => ⟨g, 0, rfl, hgl, fun j hj => ?_⟩⟩
  rw [Nat.zero_add]
  have := row_atB hown j (by omega) (by simp [mksB_len]; omega)
  rw [this, List.getElem_map, List.getElem_append_left hj]
end Sm
end Go.Proofs.Ythdibodmnpcekaa
