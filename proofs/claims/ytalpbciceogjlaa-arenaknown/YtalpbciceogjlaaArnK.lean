/- Scripts of acts; the first law on arenas out of what the program's calls must answer. -/
import Derived.Test.YtalpbciceogjlaaArnD4
namespace Go.Proofs.Ytalpbciceogjlaa
set_option linter.ambiguousOpen false
open Go.RowKit
namespace An
open Ft Lv
set_option linter.unusedSimpArgs false
set_option linter.unusedVariables false

/-- An act. -/
structure Actn where
  k : Int
  n : Int
  s : Slt

def Actn.fits (x : Actn) : Prop := (-9223372036854775808 ≤ x.k ∧ x.k ≤ 9223372036854775807) ∧ (-9223372036854775808 ≤ x.n ∧ x.n ≤ 9223372036854775807)

/-- A list of acts lies there. -/
def RdT (w : World) (v : Value) (L : List Actn) : Prop :=
  ∃ a cap, v = .slice a L.length cap ∧ L.length ≤ cap ∧ cap ≤ maxLen ∧ (0 < L.length → ∃ g o, a = some ⟨g, o, none⟩ ∧ g < w.heap.size ∧ ∀ i x, L[i]? = some x → w.rangeAt g (o + i * 19) (actL x.k x.n x.s))

theorem actL_len (k n : Int) (s : Slt) : (actL k n s).length = 19 := rfl

theorem size_act : (Try.prog.info? 36).map (·.size) = some 19 := by kernel_rfl

theorem range_below {w w' : World} {B g o : Nat} {cs : List Value} (h : w.rangeAt g o cs) (hb : Below B w w') (hg : g < B) : w'.rangeAt g o cs := fun j v hv => (hb.cell (p := ⟨g, o + j, none⟩) hg).trans (h j v hv)

set_option maxRecDepth 100000 in
theorem wpList_load_act {ops : Array Oper} {rest : List Oper} {op : Oper} {a : Act} {w : World} {Q : Exit → Act → World → Prop} (hgd : op.guard = none) (x : Operand) (ho : op.op = .load 36 x)
    (b o : Nat) (hx : a.eval x = .pointer (some ⟨b, o, none⟩)) (k n : Int) (s : Slt) (hr : w.rangeAt b o (actL k n s))
    (h : wpList Try.prog ops Q rest (a.put op.dst (.agg (actL k n s).toArray)) w) : wpList Try.prog ops Q (op :: rest) a w :=
  wpList_load_mid hgd 36 x ho b o hx (actL k n s) _ hr Try.underlying36 rfl size_act h

/-- The act that takes a slot, as the law builds it. -/
@[reducible] def actZ : Value := .agg #[nu 2, nu 0, .bool false, .bool false, nu 0, nu 0, nu 0, nu 0, nu 0, nu 0, nu 0, nu 0, .string ⟨#[]⟩, .string ⟨#[]⟩, .int .u64 0, nu 0, nu 0, nu 0, nu 0]

theorem actZ_eq : actV 2 0 slt0 = actZ := rfl

section
variable {Rep RepR : World → Nat → (Nat → Prop) → Arn → Prop} {w0 w w' : World} {p g p2 : Nat} {F G F2 F' G' : Nat → Prop} {A A' : Arn}

/-- Both arenas, and another one beside them that nobody touches. -/
structure Tr (Rep RepR : World → Nat → (Nat → Prop) → Arn → Prop) (w0 w : World) (p g p2 : Nat) (F G F2 : Nat → Prop) (A : Arn) : Prop where
  pr : Pr Rep RepR w0 w p g F G A A
  oth : Rep w p2 F2 arn0
  off : ∀ k, F2 k → ¬ F k ∧ ¬ G k

theorem Tr.turn (H : KeepC Rep) (h : Tr Rep RepR w0 w p g p2 F G F2 A) (hd : Dn Rep RepR w0 w w' p g F G F' G' A' A') : Tr Rep RepR w0 w' p g p2 F' G' F2 A' :=
  ⟨hd.pr, H.keep h.oth hd.kp (fun k hk e => e.elim (h.off k hk).1 (h.off k hk).2), fun k hk => by
    have hl := H.lt h.oth k hk
    refine ⟨fun e => ?_, fun e => ?_⟩
    · rcases hd.gf k e with h1 | h1
      · exact (h.off k hk).1 h1
      · omega
    · rcases hd.gg k e with h1 | h1
      · exact (h.off k hk).2 h1
      · omega⟩

theorem Tr.below (H : KeepC Rep) (HR : KeepC RepR) (h : Tr Rep RepR w0 w p g p2 F G F2 A) (hb : Below w.heap.size w w') : Tr Rep RepR w0 w' p g p2 F G F2 A :=
  ⟨h.pr.below H HR hb, H.below h.oth hb, h.off⟩
end

end An
end Go.Proofs.Ytalpbciceogjlaa
