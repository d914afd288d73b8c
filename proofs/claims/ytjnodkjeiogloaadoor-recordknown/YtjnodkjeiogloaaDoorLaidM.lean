/- Flat, LaidG, in one text. -/
import Derived.LaidLaws
import Derived.ChangeArms
import Derived.OpenShut
import Derived.Test.YtjnodkjeiogloaaDoorAsTop
import Derived.Test.YtjnodkjeiogloaaDoorRows
import Derived.LaidMore
import Derived.Lay
import Derived.LaidOnce
import Derived.LaidHandle
import Derived.LaidSub
import Derived.MakeChecks
import Derived.OpenVars
import Derived.ChangeSame
import Derived.ChangeVars
import Derived.JoinedOf
import Derived.RowKit
import Derived.RowKitTokens
import Derived.Stop.Joined
import Derived.Lib.LaidTab
/- A listed variable of plain data (numbers, texts, arrays and structs of such): its cells are told by its datum. No program is named here. -/
namespace Go.Proofs.YtjnodkjeiogloaaDoor
namespace Fl

mutual
def flat {H : Type} : DataW H → List Value
  | .lit (.int k n) => [.int k n]
  | .lit (.bool b) => [.bool b]
  | .lit (.string s) => [.string ⟨s.toArray⟩]
  | .agg ds => flatAll ds
  | _ => []
def flatAll {H : Type} : List (DataW H) → List Value
  | [] => []
  | d :: r => flat d ++ flatAll r
end

/-- Places one behind the other. -/
def contig : Nat → List (Nat × Nat) → Bool
  | _, [] => true
  | o, a :: r => decide (a.1 = o) && contig (o + a.2) r

def total (l : List (Nat × Nat)) : Nat := (l.map (·.2)).sum

/-- A type of plain data. -/
def okT (P : Program) : Nat → TypeId → Bool
  | 0, _ => false
  | n + 1, t => match P.underlying t with
    | some .bool => true
    | some (.int _) => true
    | some .string => true
    | some (.array m e) => okT P n e && decide (P.cellsOf t = m * P.cellsOf e)
    | some (.struct fs) => fs.toList.all (fun f => okT P n f.type) && contig 0 (fs.toList.map fun f => (f.offset, P.cellsOf f.type)) && decide (P.cellsOf t = total (fs.toList.map fun f => (f.offset, P.cellsOf f.type)))
    | _ => false

theorem glue {H : Type} (cs : List Value) : ∀ (ds : List (DataW H)) (l : List (Nat × Nat)) (o : Nat), contig o l = true → ds.length = l.length →
    (∀ (i : Nat) (a : Nat × Nat) (d : DataW H), l[i]? = some a → ds[i]? = some d → (cs.drop a.1).take a.2 = flat d) → (cs.drop o).take (total l) = flatAll ds
  | [], [], o, _, _, _ => by simp [total, flatAll]
  | d :: ds, a :: l, o, hc, hl, h => by
    simp only [contig, Bool.and_eq_true, decide_eq_true_eq] at hc
    obtain ⟨ha, hc⟩ := hc
    have ih := glue cs ds l (o + a.2) hc (by simpa using hl) (fun i x y hx hy => h (i + 1) x y (by simpa using hx) (by simpa using hy))
    have h0 := h 0 a d rfl rfl
    rw [ha] at h0
    have e : total (a :: l) = a.2 + total l := by simp [total]
    rw [e, List.take_add, h0, List.drop_drop, ih, flatAll]
  | [], _ :: _, _, _, hl, _ => by simp at hl
  | _ :: _, [], _, _, hl, _ => by simp at hl

theorem contig_rows (c : Nat) : ∀ (n k : Nat), contig (k * c) ((List.range' k n).map fun i => (i * c, c)) = true
  | 0, k => by simp [contig]
  | n + 1, k => by
    rw [List.range'_succ, List.map_cons, contig]
    have := contig_rows c n (k + 1)
    rw [Nat.succ_mul] at this
    simp [this]

theorem total_rows (c n k : Nat) : total ((List.range' k n).map fun i => (i * c, c)) = n * c := by
  unfold total
  rw [List.map_map]
  have : ((fun x : Nat × Nat => x.2) ∘ fun i => (i * c, c)) = fun _ => c := rfl
  rw [this, List.map_const', List.sum_replicate_nat, List.length_range']

theorem flat_of {H : Type} {enc : TypeId × Value → H} {P : Program} {w : World} {base : Nat} {spare : Nat → Bool} {held : Bool} :
    ∀ (n : Nat) (t : TypeId) (fuel : Nat) (cs : List Value) (d : DataW H) (p : List MemPlace), okT P n t = true → DataW.trod enc P w base spare held fuel t cs = some (d, p) → cs = flat d
  | 0, _, _, _, _, _, h, _ => by cases h
  | n + 1, t, fuel, cs, d, p, h, hd => by
    unfold okT at h
    split at h
    · rename_i ht
      obtain ⟨b, rfl, e⟩ := DataW.trod_bool ht hd
      obtain rfl := (Prod.mk.inj e).1
      simp [flat]
    · rename_i k ht
      obtain ⟨b, rfl, e, _⟩ := DataW.trod_int ht hd
      obtain rfl := (Prod.mk.inj e).1
      simp [flat]
    · rename_i ht
      obtain ⟨s, rfl, e, _⟩ := DataW.trod_string ht hd
      obtain rfl := (Prod.mk.inj e).1
      simp [flat]
    · rename_i m e ht
      simp only [Bool.and_eq_true, decide_eq_true_eq] at h
      obtain ⟨xs, m', _, ex, hlen, hl, hel⟩ := DataW.trod_array ht hd
      obtain rfl := (Prod.mk.inj ex).1
      have g := glue cs (xs.map (·.1)) ((List.range' 0 m).map fun i => (i * P.cellsOf e, P.cellsOf e)) (0 * P.cellsOf e) (contig_rows _ _ _) (by simp [hl]) (fun i a d ha hd' => by
        have hi : i < m := by
          rcases Nat.lt_or_ge i m with q | q
          · exact q
          · rw [List.getElem?_eq_none (by simpa using q)] at ha; cases ha
        have ha' : a = (i * P.cellsOf e, P.cellsOf e) := by
          rw [List.getElem?_map, List.getElem?_range' hi] at ha
          simpa using ha.symm
        subst ha'
        have hk := hel i hi
        rw [List.getElem?_map, Option.map_eq_some_iff] at hd'
        obtain ⟨x, hx, rfl⟩ := hd'
        rw [hx] at hk
        exact flat_of n e _ _ _ _ h.1 hk)
      rw [total_rows, Nat.zero_mul, List.drop_zero, ← h.2, ← hlen, List.take_length] at g
      rw [flat]; exact g
    · rename_i fs ht
      simp only [Bool.and_eq_true, decide_eq_true_eq] at h
      obtain ⟨⟨h1, h2⟩, h3⟩ := h
      obtain ⟨xs, m', _, ex, hlen, hl, hel⟩ := DataW.trod_struct ht hd
      obtain rfl := (Prod.mk.inj ex).1
      have g := glue cs (xs.map (·.1)) (fs.toList.map fun f => (f.offset, P.cellsOf f.type)) 0 h2 (by simp [hl]) (fun i a d ha hd' => by
        rw [List.getElem?_map, Option.map_eq_some_iff] at ha
        obtain ⟨f, hf, rfl⟩ := ha
        have hf' : fs[i]? = some f := by simpa using hf
        have hk := hel i f hf'
        rw [List.getElem?_map, Option.map_eq_some_iff] at hd'
        obtain ⟨x, hx, rfl⟩ := hd'
        rw [hx] at hk
        exact flat_of n f.type _ _ _ _ (List.all_eq_true.1 h1 f (List.mem_of_getElem? hf)) hk)
      rw [List.drop_zero, ← h3, ← hlen, List.take_length] at g
      rw [flat]; exact g
    · cases h

/-- The cells of the listed variable that stands first. -/
theorem cells_of_laid {P : Program} {W : World} {name : String} {d : DataW Unit} {rest : List (String × DataW Unit)} {g : Nat} {t : TypeId} (n : Nat)
    (hg : P.globalNamed name = some g) (ht : (P.globals[g]?).map (·.type) = some t) (ho : okT P n t = true) (h : laidMet P ((name, d) :: rest) W) :
    W.var? P name = some (flat d).toArray := by
  obtain ⟨ps, ⟨g', t', cs, fuel, p, q, hg', ht', hv, hd, _, _⟩, _, _⟩ := h
  obtain rfl := Option.some.inj (hg.symm.trans hg')
  obtain rfl := Option.some.inj (ht.symm.trans ht')
  rw [hv, ← flat_of n _ _ _ _ _ ho hd]
end Fl
end Go.Proofs.YtjnodkjeiogloaaDoor
/- What a walk gets of the listed variables, and a world that holds them: for every list. -/
namespace Go.Proofs.YtjnodkjeiogloaaDoor
open Go.ChangeShapes Go.WideShapes Go.RowKit
set_option linter.unusedVariables false

theorem wf_i64 {a : Int} (h : (Lit.int .i64 a).wf = true) : -9223372036854775808 ≤ a ∧ a ≤ 9223372036854775807 := by
  simp [Lit.wf, IntKind.min, IntKind.max, IntKind.signed, IntKind.bits] at h
  omega

theorem wf_u64 {a : Int} (h : (Lit.int .u64 a).wf = true) : ∃ x : Nat, a = x ∧ x < 18446744073709551616 := by
  simp [Lit.wf, IntKind.min, IntKind.max, IntKind.signed, IntKind.bits] at h
  exact ⟨a.toNat, by omega, by omega⟩

theorem Tryd.ownX : ownKnob Tryd.prog.godebug = none := by kernel_rfl

namespace Er

def errLaid : List (String × DataW Unit) := [("errors.errorType", Rows.laid_errors_errorType)]
theorem etX : Tryd.prog.globalNamed "errors.errorType" = some 0 := by kernel_rfl
theorem rtX : (Tryd.prog.cutTypes.find? (·.1 == "internal/reflectlite.rtype")).map (·.2) = some 105 := by kernel_rfl
theorem oneRowX : ((List.range 157).filter fun t => Tryd.prog.rowNamed t [101, 114, 114, 111, 114]) = [27] := by kernel_rfl
theorem sizeX : Tryd.prog.types.size = 157 := by kernel_rfl
theorem handle_of {W : World} (h' : handlesMet Tryd.prog errLaid W) : Handle W := by
  obtain ⟨name, u, ty, e1, e2, e3, e4, e5⟩ := h' _ (List.mem_singleton.2 rfl)
  have en : name = [101, 114, 114, 111, 114] := (Option.some.inj e1).symm
  subst en
  obtain rfl := Option.some.inj (rtX.symm.trans e2)
  have hm : ty ∈ (List.range 157).filter fun t => Tryd.prog.rowNamed t [101, 114, 114, 111, 114] := List.mem_filter.2 ⟨List.mem_range.2 (by rw [← sizeX]; exact e3), e4⟩
  rw [oneRowX] at hm
  obtain rfl := List.mem_singleton.1 hm
  have hh : typeHandle Tryd.prog 27 = .pointer (some ⟨1, 27, none⟩) := by kernel_rfl
  rw [hh] at e5
  have := World.var?_cell etX e5 0
  show W.cell? _ = _
  simpa using this
theorem err_of {L : List (String × DataW Unit)} {W : World} (h : laidMetH Tryd.prog L W) (e : (L.filter fun x => x.1 == "errors.errorType") = errLaid) : Handle W := by
  have h2 := h.filter fun x => x.1 == "errors.errorType"
  rw [e] at h2
  have h' : laidMet Tryd.prog [] W ∧ handlesMet Tryd.prog errLaid W := h2
  exact handle_of h'.2

/-- A world with the variable's cell laid. -/
noncomputable def withE (w0 : World) : World :=
  { w0 with heap := w0.heap.modify 0 fun
      | .cells _ t frozen => .cells #[.iface 105 (.agg #[.pointer (some ⟨1, 27, none⟩)])] t frozen
      | o => o }
end Er

/-- A world that holds the listed variables. -/
noncomputable def worldOf (os : Os) (L : List (String × DataW Unit)) : World := Er.withE (World.laidAll Tryd.prog os (L.filter fun x => x.2.handleName?.isNone))
theorem worldOf_os (os : Os) (L : List (String × DataW Unit)) : (worldOf os L).os = os := by
  show (World.laidAll Tryd.prog os _).os = os
  exact World.laidAll_os _ _ _
theorem worldOf_met (os : Os) (L : List (String × DataW Unit)) (args : Array Value)
    (h1 : (DataW.laidRun Tryd.prog ((worldOf os L).forCall (fun _ _ => 0) ⟨#[], args, []⟩).memory 8 ((L.filter fun x => x.2.handleName?.isNone).map (·.1))).map (·.1) = some (L.filter fun x => x.2.handleName?.isNone))
    (h2 : (DataW.laidRun Tryd.prog ((worldOf os L).forCall (fun _ _ => 0) ⟨#[], args, []⟩).memory 8 ((L.filter fun x => x.2.handleName?.isNone).map (·.1))).map (fun x => decide x.2.Nodup && laidRowsB Tryd.prog ((worldOf os L).forCall (fun _ _ => 0) ⟨#[], args, []⟩).memory x.2) = some true)
    (h3 : (L.filter fun x => x.2.handleName?.isSome).all (handleAtB Tryd.prog ((worldOf os L).forCall (fun _ _ => 0) ⟨#[], args, []⟩).memory) = true) :
    laidMetH Tryd.prog L ((worldOf os L).forCall (fun _ _ => 0) ⟨#[], args, []⟩).memory :=
  laidMetH_of_parts (laidMet_of_run' 8 h1 h2) h3

end Go.Proofs.YtjnodkjeiogloaaDoor
