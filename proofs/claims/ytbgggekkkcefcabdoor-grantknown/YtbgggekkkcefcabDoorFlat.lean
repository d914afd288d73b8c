/- A listed variable of plain data (numbers, texts, arrays and structs of such): its cells are told by its datum. No program is named here. -/
import Derived.LaidLaws
import Derived.ChangeArms
import Derived.OpenShut
namespace Go.Proofs.YtbgggekkkcefcabDoor
namespace Fl

mutual
def flat {H : Type} : DataW H → List Value
  | .lit (.int k n) => [.int k n]
  | .lit (.bool b) => [.bool b]
  | .lit (.string s) => [.string ⟨s.toArray⟩]
  | .agg ds => flatAll ds
  | _ => []
def flatAll {H : Type} : List (DataW H) → List Value
  | [] => []
  | d :: r => flat d ++ flatAll r
end

/-- Places one behind the other. -/
def contig : Nat → List (Nat × Nat) → Bool
  | _, [] => true
  | o, a :: r => decide (a.1 = o) && contig (o + a.2) r

def total (l : List (Nat × Nat)) : Nat := (l.map (·.2)).sum

/-- A type of plain data. -/
def okT (P : Program) : Nat → TypeId → Bool
  | 0, _ => false
  | n + 1, t => match P.underlying t with
    | some .bool => true
    | some (.int _) => true
    | some .string => true
    | some (.array m e) => okT P n e && decide (P.cellsOf t = m * P.cellsOf e)
    | some (.struct fs) => fs.toList.all (fun f => okT P n f.type) && contig 0 (fs.toList.map fun f => (f.offset, P.cellsOf f.type)) && decide (P.cellsOf t = total (fs.toList.map fun f => (f.offset, P.cellsOf f.type)))
    | _ => false

theorem glue {H : Type} (cs : List Value) : ∀ (ds : List (DataW H)) (l : List (Nat × Nat)) (o : Nat), contig o l = true → ds.length = l.length →
    (∀ (i : Nat) (a : Nat × Nat) (d : DataW H), l[i]? = some a → ds[i]? = some d → (cs.drop a.1).take a.2 = flat d) → (cs.drop o).take (total l) = flatAll ds
  | [], [], o, _, _, _ => by simp [total, flatAll]
  | d :: ds, a :: l, o, hc, hl, h => by
    simp only [contig, Bool.and_eq_true, decide_eq_true_eq] at hc
    obtain ⟨ha, hc⟩ := hc
    have ih := glue cs ds l (o + a.2) hc (by simpa using hl) (fun i x y hx hy => h (i + 1) x y (by simpa using hx) (by simpa using hy))
    have h0 := h 0 a d rfl rfl
    rw [ha] at h0
    have e : total (a :: l) = a.2 + total l := by simp [total]
    rw [e, List.take_add, h0, List.drop_drop, ih, flatAll]
  | [], _ :: _, _, _, hl, _ => by simp at hl
  | _ :: _, [], _, _, hl, _ => by simp at hl

theorem contig_rows (c : Nat) : ∀ (n k : Nat), contig (k * c) ((List.range' k n).map fun i => (i * c, c)) = true
  | 0, k => by simp [contig]
  | n + 1, k => by
    rw [List.range'_succ, List.map_cons, contig]
    have := contig_rows c n (k + 1)
    rw [Nat.succ_mul] at this
    simp [this]

theorem total_rows (c n k : Nat) : total ((List.range' k n).map fun i => (i * c, c)) = n * c := by
  unfold total
  rw [List.map_map]
  have : ((fun x : Nat × Nat => x.2) ∘ fun i => (i * c, c)) = fun _ => c := rfl
  rw [this, List.map_const', List.sum_replicate_nat, List.length_range']

theorem flat_of {H : Type} {enc : TypeId × Value → H} {P : Program} {w : World} {base : Nat} {spare : Nat → Bool} {held : Bool} :
    ∀ (n : Nat) (t : TypeId) (fuel : Nat) (cs : List Value) (d : DataW H) (p : List MemPlace), okT P n t = true → DataW.trod enc P w base spare held fuel t cs = some (d, p) → cs = flat d
  | 0, _, _, _, _, _, h, _ => by cases h
  | n + 1, t, fuel, cs, d, p, h, hd => by
    unfold okT at h
    split at h
    · rename_i ht
      obtain ⟨b, rfl, e⟩ := DataW.trod_bool ht hd
      obtain rfl := (Prod.mk.inj e).1
      simp [flat]
    · rename_i k ht
      obtain ⟨b, rfl, e, _⟩ := DataW.trod_int ht hd
      obtain rfl := (Prod.mk.inj e).1
      simp [flat]
    · rename_i ht
      obtain ⟨s, rfl, e, _⟩ := DataW.trod_string ht hd
      obtain rfl := (Prod.mk.inj e).1
      simp [flat]
    · rename_i m e ht
      simp only [Bool.and_eq_true, decide_eq_true_eq] at h
      obtain ⟨xs, m', _, ex, hlen, hl, hel⟩ := DataW.trod_array ht hd
      obtain rfl := (Prod.mk.inj ex).1
      have g := glue cs (xs.map (·.1)) ((List.range' 0 m).map fun i => (i * P.cellsOf e, P.cellsOf e)) (0 * P.cellsOf e) (contig_rows _ _ _) (by simp [hl]) (fun i a d ha hd' => by
        have hi : i < m := by
          rcases Nat.lt_or_ge i m with q | q
          · exact q
          · rw [List.getElem?_eq_none (by simpa using q)] at ha; cases ha
        have ha' : a = (i * P.cellsOf e, P.cellsOf e) := by
          rw [List.getElem?_map, List.getElem?_range' hi] at ha
          simpa using ha.symm
        subst ha'
        have hk := hel i hi
        rw [List.getElem?_map, Option.map_eq_some_iff] at hd'
        obtain ⟨x, hx, rfl⟩ := hd'
        rw [hx] at hk
        exact flat_of n e _ _ _ _ h.1 hk)
      rw [total_rows, Nat.zero_mul, List.drop_zero, ← h.2, ← hlen, List.take_length] at g
      rw [flat]; exact g
    · rename_i fs ht
      simp only [Bool.and_eq_true, decide_eq_true_eq] at h
      obtain ⟨⟨h1, h2⟩, h3⟩ := h
      obtain ⟨xs, m', _, ex, hlen, hl, hel⟩ := DataW.trod_struct ht hd
      obtain rfl := (Prod.mk.inj ex).1
      have g := glue cs (xs.map (·.1)) (fs.toList.map fun f => (f.offset, P.cellsOf f.type)) 0 h2 (by simp [hl]) (fun i a d ha hd' => by
        rw [List.getElem?_map, Option.map_eq_some_iff] at ha
        obtain ⟨f, hf, rfl⟩ := ha
        have hf' : fs[i]? = some f := by simpa using hf
        have hk := hel i f hf'
        rw [List.getElem?_map, Option.map_eq_some_iff] at hd'
        obtain ⟨x, hx, rfl⟩ := hd'
        rw [hx] at hk
        exact flat_of n f.type _ _ _ _ (List.all_eq_true.1 h1 f (List.mem_of_getElem? hf)) hk)
      rw [List.drop_zero, ← h3, ← hlen, List.take_length] at g
      rw [flat]; exact g
    · cases h

/-- The cells of the listed variable that stands first. -/
theorem cells_of_laid {P : Program} {W : World} {name : String} {d : DataW Unit} {rest : List (String × DataW Unit)} {g : Nat} {t : TypeId} (n : Nat)
    (hg : P.globalNamed name = some g) (ht : (P.globals[g]?).map (·.type) = some t) (ho : okT P n t = true) (h : laidMet P ((name, d) :: rest) W) :
    W.var? P name = some (flat d).toArray := by
  obtain ⟨ps, ⟨g', t', cs, fuel, p, q, hg', ht', hv, hd, _, _⟩, _, _⟩ := h
  obtain rfl := Option.some.inj (hg.symm.trans hg')
  obtain rfl := Option.some.inj (ht.symm.trans ht')
  rw [hv, ← flat_of n _ _ _ _ _ ho hd]
end Fl
end Go.Proofs.YtbgggekkkcefcabDoor
