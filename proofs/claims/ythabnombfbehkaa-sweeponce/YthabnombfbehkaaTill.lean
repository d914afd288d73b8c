import Derived.Deep.RegionHeld
/- A region that draws its order, where one operation (number m) turns what the loads ahead of it have read: a condition on the world that is held until m has come up. Written after the library's own laws on regions that hold a condition throughout. No program is named here. -/
namespace Go.Proofs.Ythabnombfbehkaa
namespace Tl
set_option linter.unusedVariables false

section
variable {P : Program} {ops : Array Oper} {Q : Exit → Act → World → Prop} {md : Region.Mode} {S : World → Prop} {m : Nat}

/-- Whatever order is picked; S holds behind each operation as long as m has not come up. -/
def AnyT (P : Program) (md : Region.Mode) (ops : Array Oper) (Q : Exit → Act → World → Prop) (S : World → Prop) (m : Nat) : Nat → Array Bool → Act → World → Prop
  | 0, dn, a, w => Region.ready md ops dn = [] ∧ Q .normal a w
  | f + 1, dn, a, w => (Region.ready md ops dn = [] → Q .normal a w) ∧ ∀ i ∈ Region.ready md ops dn, wpOp P ops Q i (fun a' w' => ((dn.setIfInBounds i true).getD m true = false → S w') ∧ AnyT P md ops Q S m f (dn.setIfInBounds i true) a' w') a w

theorem AnyT.any : ∀ (f : Nat) (dn : Array Bool) (a : Act) (w : World), AnyT P md ops Q S m f dn a w → wpAny P md ops Q f dn a w
  | 0, _, _, _, h => h
  | f + 1, _, _, _, h => ⟨h.1, fun i hi => wpOp_mono (fun a' w' h' => AnyT.any f _ a' w' h'.2) (h.2 i hi)⟩

/-- One operation first: G is what is known as long as it waits. -/
theorem AnyT.first {i : Nat} {oi : Oper} {v : Value} {S0 : World → Prop} (G : Array Bool → World → Prop) (hi : ops[i]? = some oi) (hsel : ∀ (j : Nat) (o : Oper) cs b, ops[j]? = some o → o.op ≠ .select cs b)
    (hQ : ∀ c a w, Q (.panic c) (a.put oi.dst v) w → Q (.panic c) a w) (hG0 : ∀ dn w, G dn w → S0 w) (hGi : ∀ dn w, G dn w → (dn.setIfInBounds i true).getD m true = false → S w)
    (hG : ∀ dn j w w', G dn w → j ∈ Region.ready md ops dn → j ≠ i → (((dn.setIfInBounds j true).setIfInBounds i true).getD m true = false → S w') → G (dn.setIfInBounds j true) w' ∧ ((dn.setIfInBounds j true).getD m true = false → S w')) :
    ∀ (f : Nat) (dn : Array Bool) (a : Act) (w : World),
      (∀ j oj, ops[j]? = some oj → j ≠ i → dn.getD j true = false → (∀ e ∈ oj.after, Region.binds md e = true → e.on ≠ i) → oi.apart ops oj = true) →
      i ∈ Region.ready md ops dn → YieldsIf P ops S0 oi v a → G dn w →
      AnyT P md ops Q S m f (dn.setIfInBounds i true) (a.put oi.dst v) w → AnyT P md ops Q S m (f + 1) dn a w := by
  intro f
  induction f with
  | zero =>
    intro dn a w _ hr hy hg H
    refine ⟨fun h => (by rw [h] at hr; cases hr), fun j hj => ?_⟩
    by_cases hji : j = i
    · subst hji
      exact hy.wpOp hi (hG0 _ _ hg) ⟨hGi _ _ hg, H⟩
    · have := ready_mono hj hji
      rw [H.1] at this
      cases this
  | succ f ih =>
    intro dn a w hfree hr hy hg H
    refine ⟨fun h => (by rw [h] at hr; cases hr), fun j hj => ?_⟩
    by_cases hji : j = i
    · subst hji
      exact hy.wpOp hi (hG0 _ _ hg) ⟨hGi _ _ hg, H⟩
    · have h1 := H.2 j (ready_mono hj hji)
      obtain ⟨hjun, oj, hoj, hall⟩ := mem_ready.1 hj
      have hi0 := (mem_ready.1 hr).1
      have hnot : ∀ e ∈ oj.after, Region.binds md e = true → e.on ≠ i := fun e he hb heq => by
        have h2 := hall e he hb
        rw [heq] at h2
        simp only [Array.getD_eq_getD_getElem?] at h2 hi0
        cases hq : dn[i]? with
        | none => rw [hq] at h2; simp at h2
        | some b => rw [hq] at h2 hi0; simp at h2 hi0; rw [h2] at hi0; cases hi0
      have h2 := wpOp_putIf hoj (hfree j oj hoj hji hjun hnot) (fun cs b => hsel i oi cs b hi) (fun cs b => hsel j oj cs b hoj) hQ hy h1
      refine wpOp_mono (fun a' w' h3 => ?_) h2
      have hcm : (dn.setIfInBounds i true).setIfInBounds j true = (dn.setIfInBounds j true).setIfInBounds i true := (Array.setIfInBounds_comm _ _ hji).symm
      have h4 := h3.2.1
      rw [hcm] at h4
      obtain ⟨g1, g2⟩ := hG dn j w w' hg hj hji h4
      refine ⟨g2, ih (dn.setIfInBounds j true) a' w' (fun k ok hk hki hun hno => ?_) (ready_mono hr (Ne.symm hji)) h3.1 g1 ?_⟩
      · refine hfree k ok hk hki ?_ hno
        by_cases hjk : j = k
        · subst hjk
          exact hjun
        · rw [Go.getD_set_ne true hjk] at hun
          exact hun
      · rw [← hcm]
        exact h3.2.2

/-- Each waits for the one ahead of it. -/
def chain (md : Region.Mode) (ops : Array Oper) : Nat → List Nat → Bool
  | _, [] => true
  | i, c :: r => (match ops[c]? with | some o => o.after.any (fun e => Region.binds md e && e.on == i) | none => false) && chain md ops c r

theorem chain_waits : ∀ (ch : List Nat) (i : Nat) (dn : Array Bool), chain md ops i ch = true → (∀ c ∈ i :: ch, dn.getD c true = false) → ∀ c ∈ ch, c ∉ Region.ready md ops dn
  | [], _, _, _, _ => fun c hc => by cases hc
  | c :: r, i, dn, h, hd => by
    unfold chain at h
    rw [Bool.and_eq_true] at h
    intro k hk
    rcases List.mem_cons.1 hk with rfl | hk
    · intro hr
      obtain ⟨_, o, ho, hall⟩ := mem_ready.1 hr
      have h1 := h.1
      rw [ho] at h1
      simp only [Array.any_eq_true'] at h1
      obtain ⟨e, he, hb⟩ := h1
      rw [Bool.and_eq_true, beq_iff_eq] at hb
      have h2 := hall e he hb.1
      have h3 := hd i (by simp)
      rw [hb.2] at h2
      simp only [Array.getD_eq_getD_getElem?] at h2 h3
      cases hq : dn[i]? with
      | none => rw [hq] at h2; simp at h2
      | some b => rw [hq] at h2 h3; simp at h2 h3; rw [h2] at h3; cases h3
    · exact chain_waits r c dn h.2 (fun k hk => hd k (List.mem_cons_of_mem _ hk)) k hk

/-- A load first, which m waits for by others in between. -/
theorem AnyT.take {i : Nat} {oi : Oper} {v : Value} {f : Nat} {dn : Array Bool} {a : Act} {w : World} (ch : List Nat) (hi : ops[i]? = some oi)
    (hs : Region.noSelect ops = true) (hf : Region.free md ops dn i = true) (hr : (Region.ready md ops dn).contains i = true) (hch : chain md ops i ch = true) (hm : (ch.contains m && !(i == m) && ch.all (fun c => !(c == i))) = true) (hun : (i :: ch).all (fun c => dn.getD c true == false) = true)
    (hQ : ∀ c a w, Q (.panic c) (a.put oi.dst v) w → Q (.panic c) a w) (hy : YieldsIf P ops S oi v a) (hS : S w)
    (h : AnyT P md ops Q S m f (dn.setIfInBounds i true) (a.put oi.dst v) w) : AnyT P md ops Q S m (f + 1) dn a w := by
  simp only [Bool.and_eq_true, List.contains_iff_mem, Bool.not_eq_true', beq_eq_false_iff_ne, ne_eq, List.all_eq_true, beq_iff_eq] at hm hun
  obtain ⟨⟨hmc, hmi⟩, hci⟩ := hm
  refine AnyT.first (S0 := S) (fun d w => S w ∧ ∀ c ∈ i :: ch, d.getD c true = false) hi (Region.noSelect_spec hs) hQ (fun d w h => h.1) (fun d w h _ => h.1) ?_ f dn a w (Region.free_spec hi hf) (by simpa using hr) hy ⟨hS, hun⟩ h
  rintro d j w w' ⟨_, hd⟩ hj hji hn
  have hne : ∀ c ∈ i :: ch, j ≠ c := fun c hc e => by
    rcases List.mem_cons.1 hc with rfl | hc
    · exact hji e
    · exact chain_waits ch i d hch hd c hc (e ▸ hj)
  have hd' : ∀ c ∈ i :: ch, (d.setIfInBounds j true).getD c true = false := fun c hc => by
    rw [Go.getD_set_ne true (hne c hc)]
    exact hd c hc
  have hw : S w' := hn (by
    rw [Go.getD_set_ne true hmi]
    exact hd' m (List.mem_cons_of_mem _ hmc))
  exact ⟨⟨hw, hd'⟩, fun _ => hw⟩

/-- What yields in whatever world. -/
theorem AnyT.takeY {i : Nat} {oi : Oper} {v : Value} {f : Nat} {dn : Array Bool} {a : Act} {w : World} (hi : ops[i]? = some oi)
    (hs : Region.noSelect ops = true) (hf : Region.free md ops dn i = true) (hr : (Region.ready md ops dn).contains i = true) (hmi : (i == m) = false)
    (hQ : ∀ c a w, Q (.panic c) (a.put oi.dst v) w → Q (.panic c) a w) (hy : YieldsIf P ops (fun _ => True) oi v a) (hS : dn.getD m true = false → S w)
    (h : AnyT P md ops Q S m f (dn.setIfInBounds i true) (a.put oi.dst v) w) : AnyT P md ops Q S m (f + 1) dn a w := by
  have hne : i ≠ m := by simpa using hmi
  refine AnyT.first (S0 := fun _ => True) (fun d w => d.getD m true = false → S w) hi (Region.noSelect_spec hs) hQ (fun d w h => trivial) (fun d w h hd => h (by rwa [Go.getD_set_ne true hne] at hd)) ?_ f dn a w (Region.free_spec hi hf) (by simpa using hr) hy hS h
  intro d j w w' _ hj hji hn
  have : ((d.setIfInBounds j true).getD m true = false → S w') := fun hd => hn (by rw [Go.getD_set_ne true hne]; exact hd)
  exact ⟨this, this⟩

/-- The next one, where just one may come up. -/
theorem AnyT.next {i : Nat} {o : Oper} {f : Nat} {dn : Array Bool} {a : Act} {w : World} (hr : Region.ready md ops dn = [i]) (ho : ops[i]? = some o)
    (h : ∀ K' : Act → World → Prop, Shut (∀ a w, ((dn.setIfInBounds i true).getD m true = false → S w) → AnyT P md ops Q S m f (dn.setIfInBounds i true) a w → K' a w) → if Region.wanted o (yielded ops a.tmps) = true then Oper.wp P o a w K' Q else K' (a.put o.dst undef) w) : AnyT P md ops Q S m (f + 1) dn a w := by
  refine ⟨fun h0 => (by rw [h0] at hr; cases hr), fun j hj => ?_⟩
  rw [hr, List.mem_singleton] at hj
  subst hj
  exact wpOp_step ho (fun K' hK => h K' (fun a w hS hW => hK a w ⟨hS, hW⟩))

theorem AnyT.done {dn : Array Bool} {a : Act} {w : World} (hr : Region.ready md ops dn = []) (h : Q .normal a w) : ∀ f, AnyT P md ops Q S m f dn a w
  | 0 => ⟨hr, h⟩
  | _ + 1 => ⟨fun _ => h, by rw [hr]; simp⟩

/-- The beginning. -/
theorem wp_region_till {id : Nat} {a : Act} {w : World} (m : Nat) (S : World → Prop) (hm : P.follows .mixedOrders = true)
    (h : AnyT P .any ops Q S m ops.size (Array.replicate ops.size false) a w.drew) : (Code.region id ops true).wp P Q a w :=
  wp_region_any hm (AnyT.any _ _ _ _ h)
end
end Tl
end Go.Proofs.Ythabnombfbehkaa
