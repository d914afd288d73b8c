/- What the cells of plain data (numbers, texts, arrays and structs of such) that came in are, told by their type; and how long its texts may be. No program is named here. -/
import Derived.Test.YtbgggekkkcefcaaDoorFlat
import Derived.SizedLaws
import Derived.Deep.Slices
import Derived.Deep.MidRow
namespace Go.Proofs.YtbgggekkkcefcaaDoor
namespace Fl

/-- What a cell may be. -/
inductive CK where
  | i (k : IntKind)
  | s
  | b

def fits : CK → Value → Prop
  | .i k, v => ∃ n, v = .int k n ∧ (Lit.int k n).wf = true
  | .s, v => ∃ x : ByteArray, v = .string x ∧ x.size ≤ maxLen
  | .b, v => ∃ x, v = .bool x

def M2 : List CK → List Value → Prop
  | [], [] => True
  | k :: ks, v :: vs => fits k v ∧ M2 ks vs
  | _, _ => False

theorem M2.append : ∀ {a : List CK} {x : List Value} {b : List CK} {y : List Value}, M2 a x → M2 b y → M2 (a ++ b) (x ++ y)
  | [], [], _, _, _, h => h
  | _ :: _, _ :: _, _, _, h, k => ⟨h.1, M2.append h.2 k⟩
  | [], _ :: _, _, _, h, _ => by cases h
  | _ :: _, [], _, _, h, _ => by cases h

theorem M2.out {k : CK} {ks : List CK} : ∀ {cs : List Value}, M2 (k :: ks) cs → ∃ v vs, cs = v :: vs ∧ fits k v ∧ M2 ks vs
  | [], h => by cases h
  | v :: vs, h => ⟨v, vs, rfl, h.1, h.2⟩

theorem M2.nil : ∀ {cs : List Value}, M2 [] cs → cs = []
  | [], _ => rfl
  | _ :: _, h => by cases h

def shape (P : Program) : Nat → TypeId → List CK
  | 0, _ => []
  | n + 1, t => match P.underlying t with
    | some .bool => [.b]
    | some (.int k) => [.i k]
    | some .string => [.s]
    | some (.array m e) => (List.replicate m (shape P n e)).flatten
    | some (.struct fs) => (fs.toList.map fun f => shape P n f.type).flatten
    | _ => []

theorem all2 {H : Type} : ∀ (sh : List (List CK)) (ds : List (DataW H)), sh.length = ds.length → (∀ (i : Nat) a d, sh[i]? = some a → ds[i]? = some d → M2 a (flat d)) → M2 sh.flatten (flatAll ds)
  | [], [], _, _ => by simp [flatAll, M2]
  | a :: sh, d :: ds, hl, h => by
    rw [List.flatten_cons, flatAll]
    exact M2.append (h 0 a d rfl rfl) (all2 sh ds (by simpa using hl) fun i x y hx hy => h (i + 1) x y (by simpa using hx) (by simpa using hy))
  | [], _ :: _, hl, _ => by simp at hl
  | _ :: _, [], hl, _ => by simp at hl

theorem shape_of {H : Type} {enc : TypeId × Value → H} {P : Program} {w : World} {base : Nat} {spare : Nat → Bool} {held : Bool} :
    ∀ (n : Nat) (t : TypeId) (fuel : Nat) (cs : List Value) (d : DataW H) (p : List MemPlace), okT P n t = true → DataW.trod enc P w base spare held fuel t cs = some (d, p) → M2 (shape P n t) (flat d)
  | 0, _, _, _, _, _, h, _ => by cases h
  | n + 1, t, fuel, cs, d, p, h, hd => by
    unfold okT at h
    unfold shape
    split at h
    · rename_i ht
      obtain ⟨b, rfl, e⟩ := DataW.trod_bool ht hd
      obtain rfl := (Prod.mk.inj e).1
      simp only [ht, flat]
      exact ⟨⟨_, rfl⟩, trivial⟩
    · rename_i k ht
      obtain ⟨b, rfl, e, hw⟩ := DataW.trod_int ht hd
      obtain rfl := (Prod.mk.inj e).1
      simp only [ht, flat]
      exact ⟨⟨_, rfl, hw⟩, trivial⟩
    · rename_i ht
      obtain ⟨s, rfl, e, hw⟩ := DataW.trod_string ht hd
      obtain rfl := (Prod.mk.inj e).1
      simp only [ht, flat]
      exact ⟨⟨_, rfl, hw⟩, trivial⟩
    · rename_i m e ht
      simp only [Bool.and_eq_true, decide_eq_true_eq] at h
      obtain ⟨xs, m', _, ex, hlen, hl, hel⟩ := DataW.trod_array ht hd
      obtain rfl := (Prod.mk.inj ex).1
      simp only [ht, flat]
      refine all2 _ _ (by simp [hl]) fun i a d ha hd' => ?_
      have hi : i < m := by
        rcases Nat.lt_or_ge i m with q | q
        · exact q
        · rw [List.getElem?_eq_none (by simpa using q)] at ha; cases ha
      obtain rfl : a = shape P n e := by
        rw [List.getElem?_replicate, if_pos hi] at ha
        exact (Option.some.inj ha).symm
      have hk := hel i hi
      rw [List.getElem?_map, Option.map_eq_some_iff] at hd'
      obtain ⟨x, hx, rfl⟩ := hd'
      rw [hx] at hk
      exact shape_of n e _ _ _ _ h.1 hk
    · rename_i fs ht
      simp only [Bool.and_eq_true, decide_eq_true_eq] at h
      obtain ⟨⟨h1, h2⟩, h3⟩ := h
      obtain ⟨xs, m', _, ex, hlen, hl, hel⟩ := DataW.trod_struct ht hd
      obtain rfl := (Prod.mk.inj ex).1
      simp only [ht, flat]
      refine all2 _ _ (by simp [hl]) fun i a d ha hd' => ?_
      rw [List.getElem?_map, Option.map_eq_some_iff] at ha
      obtain ⟨f, hf, rfl⟩ := ha
      have hk := hel i f (by simpa using hf)
      rw [List.getElem?_map, Option.map_eq_some_iff] at hd'
      obtain ⟨x, hx, rfl⟩ := hd'
      rw [hx] at hk
      exact shape_of n f.type _ _ _ _ (List.all_eq_true.1 h1 f (List.mem_of_getElem? hf)) hk
    · cases h

theorem mem_flatAll {H : Type} {v : Value} : ∀ {ds : List (DataW H)}, v ∈ flatAll ds → ∃ (i : Nat) (d : DataW H), ds[i]? = some d ∧ v ∈ flat d
  | [], h => by simp [flatAll] at h
  | d :: r, h => by
    rw [flatAll, List.mem_append] at h
    rcases h with h | h
    · exact ⟨0, d, rfl, h⟩
    · obtain ⟨i, e, h1, h2⟩ := mem_flatAll h
      exact ⟨i + 1, e, by simpa using h1, h2⟩

theorem weights_mem_all {H : Type} {P : Program} {e : TypeId} : ∀ {ds : List (DataW H)} {j : Nat} {d : DataW H}, ds[j]? = some d → ∀ n ∈ d.weights P e, n ∈ DataW.weightsAll P e ds
  | d0 :: ds, 0, d, hd, n, hn => by
    simp only [List.getElem?_cons_zero, Option.some.injEq] at hd
    subst hd
    simp only [DataW.weightsAll, List.mem_append]
    exact Or.inl hn
  | d0 :: ds, j + 1, d, hd, n, hn => by
    simp only [List.getElem?_cons_succ] at hd
    simp only [DataW.weightsAll, List.mem_append]
    exact Or.inr (weights_mem_all hd n hn)
  | [], _, _, hd, _, _ => by simp at hd

theorem str_of {H : Type} {enc : TypeId × Value → H} {P : Program} {w : World} {base : Nat} {spare : Nat → Bool} {held : Bool} :
    ∀ (n : Nat) (t : TypeId) (fuel : Nat) (cs : List Value) (d : DataW H) (p : List MemPlace), okT P n t = true → DataW.trod enc P w base spare held fuel t cs = some (d, p) → ∀ x : ByteArray, Value.string x ∈ flat d → x.size ∈ d.weights P t
  | 0, _, _, _, _, _, h, _ => by cases h
  | n + 1, t, fuel, cs, d, p, h, hd => by
    unfold okT at h
    intro x hx
    split at h
    · rename_i ht
      obtain ⟨b, rfl, e⟩ := DataW.trod_bool ht hd
      obtain rfl := (Prod.mk.inj e).1
      simp [flat] at hx
    · rename_i k ht
      obtain ⟨b, rfl, e, hw⟩ := DataW.trod_int ht hd
      obtain rfl := (Prod.mk.inj e).1
      simp [flat] at hx
    · rename_i ht
      obtain ⟨s, rfl, e, hw⟩ := DataW.trod_string ht hd
      obtain rfl := (Prod.mk.inj e).1
      simp only [flat, List.mem_singleton, Value.string.injEq] at hx
      subst hx
      simp only [DataW.weights, List.mem_singleton]
      rfl
    · rename_i m e ht
      simp only [Bool.and_eq_true, decide_eq_true_eq] at h
      obtain ⟨xs, m', _, ex, hlen, hl, hel⟩ := DataW.trod_array ht hd
      obtain rfl := (Prod.mk.inj ex).1
      rw [flat] at hx
      obtain ⟨i, di, hdi, hxi⟩ := mem_flatAll hx
      have hdi' := hdi
      rw [List.getElem?_map, Option.map_eq_some_iff] at hdi
      obtain ⟨y, hy, rfl⟩ := hdi
      have hi : i < m := by
        have := (List.getElem?_eq_some_iff.1 hy).1
        omega
      have hk := hel i hi
      rw [hy] at hk
      simp only [DataW.weights, ht]
      exact weights_mem_all hdi' _ (str_of n e _ _ _ _ h.1 hk x hxi)
    · rename_i fs ht
      simp only [Bool.and_eq_true, decide_eq_true_eq] at h
      obtain ⟨⟨h1, h2⟩, h3⟩ := h
      obtain ⟨xs, m', _, ex, hlen, hl, hel⟩ := DataW.trod_struct ht hd
      obtain rfl := (Prod.mk.inj ex).1
      rw [flat] at hx
      obtain ⟨i, di, hdi, hxi⟩ := mem_flatAll hx
      have hdi' := hdi
      rw [List.getElem?_map, Option.map_eq_some_iff] at hdi
      obtain ⟨y, hy, rfl⟩ := hdi
      have hi : i < fs.size := by
        have := (List.getElem?_eq_some_iff.1 hy).1
        omega
      have hf : fs[i]? = some fs[i] := Array.getElem?_eq_getElem hi
      have hk := hel i _ hf
      rw [hy] at hk
      simp only [DataW.weights, ht]
      exact DataW.weights_mem_each (t := fs[i].type) (by simp [hi]) hdi' _ (str_of n _ _ _ _ _ (List.all_eq_true.1 h1 _ (by simp)) hk x hxi)
    · cases h

/-- A list of plain data that came in: each element's cells lie there, of the type's make; texts are no longer than the reach. -/
theorem rows_of {H : Type} {enc : TypeId × Value → H} {P : Program} {W : World} {base : Nat} {sp : Nat → Bool} {held : Bool} {v : Value} {d : DataW H} {p : List MemPlace} {t e : TypeId} (k : Nat) (ho : okT P k e = true) (hpos : 0 < P.cellsOf e) (hu : P.underlying t = some (.slice e))
    (hv : ∃ a len cap, v = .slice a len cap) (h : ∃ fuel, DataW.trod enc P W base sp held fuel t v.cells.toList = some (d, p)) {ts : List TypeId} {ds : List (DataW H)} (hsz : (DataW.weightsEach P ts ds).all (· ≤ reachBytes) = true) (j : Nat) (ht : ts[j]? = some t) (hd : ds[j]? = some d) :
    ∃ a len cap, v = .slice a len cap ∧ len ≤ cap ∧ cap ≤ maxLen ∧ len * P.bytesOf e ≤ reachBytes ∧ (0 < len → ∃ g o, a = some ⟨g, o, none⟩ ∧ ∀ i, i < len → ∃ cs, W.rangeAt g (o + i * P.cellsOf e) cs ∧ cs.length = P.cellsOf e ∧ M2 (shape P k e) cs ∧ ∀ x : ByteArray, Value.string x ∈ cs → x.size ≤ reachBytes) := by
  obtain ⟨a0, len0, cap0, rfl⟩ := hv
  obtain ⟨fuel, hf⟩ := h
  rcases Go.Deep.open_slice hu hf with ⟨hcs, hx⟩ | ⟨a, len, cap, m, n, D, Pl, hcs, hb, hl, hm, hme, hx, hel⟩
  · simp [Value.cells] at hcs
    obtain ⟨rfl, rfl, rfl⟩ := hcs
    exact ⟨_, _, _, rfl, Nat.le_refl _, by unfold maxLen; omega, by simp, fun h => by simp at h⟩
  · simp [Value.cells] at hcs
    obtain ⟨rfl, rfl, rfl⟩ := hcs
    have hlm : len0 ≤ m := by rw [hme]; split <;> omega
    have e1 : d = .slice ((List.range len0).map D) ((List.range (m - len0)).map fun j => D (len0 + j)) := (Prod.mk.inj hx).1
    rw [e1] at hd
    have hz := sized_slice hsz (j := j) (t := t) (e := e) ht hd hu
    refine ⟨_, _, _, rfl, hl, hm, ?_, fun h0 => ?_⟩
    · refine Nat.le_trans (Nat.mul_le_mul_right _ ?_) hz
      simp
    · have part : ∀ i, i < len0 → ∃ cs, W.cells? base (a.add (i * P.cellsOf e)) (P.cellsOf e) = some cs ∧ M2 (shape P k e) cs ∧ ∀ x : ByteArray, Value.string x ∈ cs → x.size ≤ reachBytes := fun i hi => by
        obtain ⟨cs, h1, h2⟩ := hel i (by omega)
        have e2 := flat_of k e _ _ _ _ ho h2
        refine ⟨cs, h1, by rw [e2]; exact shape_of k e _ _ _ _ ho h2, fun x hx => ?_⟩
        rw [e2] at hx
        have hw := str_of k e _ _ _ _ ho h2 x hx
        have := List.all_eq_true.1 hsz _ (DataW.weights_mem_each ht hd x.size (by
          simp only [DataW.weights, hu, List.mem_cons, List.mem_append]
          exact .inr (.inl (weights_mem_all (j := i) (d := D i) (by simp [hi]) _ hw))))
        simpa using this
      obtain ⟨c0, h1, _⟩ := part 0 h0
      obtain ⟨_, hl1, hc1⟩ := World.cells?_some h1
      have z0 := hc1 0 hpos
      rw [Nat.zero_mul] at z0
      obtain ⟨g, o, spt⟩ := a
      have hsp : spt = none := by
        rw [show ((⟨g, o, spt⟩ : Addr).add 0).add 0 = ⟨g, o, spt⟩ by simp [Addr.add]] at z0
        rw [List.getElem?_eq_getElem (by omega)] at z0
        unfold World.cell? at z0
        split at z0
        · cases spt with
          | none => rfl
          | some x => simp at z0
        · cases z0
      subst hsp
      refine ⟨g, o, rfl, fun i hi => ?_⟩
      obtain ⟨cs, h2, h3, h4⟩ := part i hi
      obtain ⟨_, hl2, hc2⟩ := World.cells?_some h2
      refine ⟨cs, fun c v hv => ?_, hl2, h3, h4⟩
      have hc : c < P.cellsOf e := by
        have := (List.getElem?_eq_some_iff.1 hv).1
        omega
      have := hc2 c hc
      rw [Addr.add_mid, Addr.add_mid] at this
      rw [this, hv]
end Fl
end Go.Proofs.YtbgggekkkcefcaaDoor
