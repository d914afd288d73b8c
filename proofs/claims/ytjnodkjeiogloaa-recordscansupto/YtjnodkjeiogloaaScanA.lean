/- ApartBytes of the lists that RecordScans has gathered, and what it leaves. -/
import Derived.Test.YtjnodkjeiogloaaScanS
namespace Go.Proofs.Ytjnodkjeiogloaa
set_option linter.ambiguousOpen false
open Go.RowKit
namespace Rc
open Sm Pk Ft
set_option linter.unusedSimpArgs false
set_option linter.unusedVariables false

set_option maxRecDepth 100000 in
theorem apart_nil (W : World) : Calls Try.prog 14 #[.slice none 0 0] W fun e w' => e = .returned (.bool true) ∧ w' = W := by
  go_enter Try.func14, Try.ntmps14
  go_wp2
  go_loopw [3] (fun kv wr => kv = .int .i64 0 ∧ wr = W) (fun _ _ => 0)
  case atStart => exact ⟨rfl, rfl⟩
  case round =>
  obtain ⟨rfl, rfl⟩ := hrel
  go_wp2
  rename World => w2
  go_loopw [5, 6] (fun gv kv wr => gv = .slice none 0 0 ∧ kv = .int .i64 0 ∧ wr = w2) (fun _ _ _ => 0)
  case atStart => exact ⟨rfl, rfl, rfl⟩
  case round =>
  obtain ⟨rfl, rfl, rfl⟩ := hrel
  go_wp2
  rename World => w3
  go_loopw [9] (fun kv wr => kv = .int .i64 0 ∧ wr = w3) (fun _ _ => 0)
  case atStart => exact ⟨rfl, rfl⟩
  case round =>
  obtain ⟨rfl, rfl⟩ := hrel
  go_wp2
  go_ret
  exact ⟨rfl, rfl⟩

section
variable {W WK w' : World} {M B ep : Nat} {ls : List (List UInt8)} {Be Bl : Nat} {cv : Value} {Ds : List Nat} {v : Value} {us : List Value} {qs : List (List UInt8)}

theorem St.apart (h : St W WK M B ep ls Be Bl cv Ds v us qs) (hM : M ≤ WK.heap.size) (hn : us.length < 4000000) (hq : ∀ q ∈ qs, q.length ≤ 512) : Calls Try.prog 14 #[v] W fun e w' => e = .returned (.bool true) ∧ Keep (Wb us) W w' := by
  rcases h.row.2 with ⟨hv, h0⟩ | ⟨L, cap, cur, hv, hb, hL, hc1, hc2, _⟩
  · subst hv
    refine (apart_nil W).mono ?_
    rintro e w' ⟨rfl, rfl⟩
    exact ⟨rfl, Keep.refl _ _⟩
  · subst hv
    obtain ⟨hLs, hAp⟩ := h.lists rfl (Nat.le_trans hM h.bel.size)
    refine (apartY_l us _ M L cap _ W hLs hAp hn (fun l => ?_) hc1 hc2).mono ?_
    · show (qs.getD l []).length < 1000000000
      rw [List.getD_eq_getElem?_getD]
      cases hl : qs[l]? with
      | none => simp
      | some q =>
        have := hq q (List.mem_of_getElem? hl)
        simp only [Option.getD_some]
        omega
    · rintro e w' ⟨rfl, hk, _⟩
      exact ⟨rfl, hk⟩

theorem St.wb (h : St W WK M B ep ls Be Bl cv Ds v us qs) {b : Nat} (hb : Wb us b) : M ≤ b ∧ ∃ cur, W.heap[b]? = some (.cells cur 5 (0, 0)) := by
  obtain ⟨l, hl, hbl⟩ := hb
  obtain ⟨p, hp⟩ := h.pays.at_ (List.getElem_mem hl)
  refine ⟨(hp.lt b hbl).1, ?_⟩
  rcases hp.2 with ⟨e, _⟩ | ⟨g, cap, cur, e, _, hg, _⟩
  · rw [e] at hbl
    simp [Value.ownBlock] at hbl
  · rw [e] at hbl
    obtain rfl : g = b := by simpa [Value.ownBlock] using hbl
    exact ⟨cur, hg⟩

theorem St.kbox (h : St W WK M B ep ls Be Bl cv Ds v us qs) (hk : Keep (Wb us) W w') {b : Nat} {t : TypeId} {x : Value} (hb : Boxed W b t x) (ht : t ≠ 5) : Boxed w' b t x := by
  refine hk.at hb (fun q => ?_)
  obtain ⟨_, cur, hc⟩ := h.wb q
  rw [show W.heap[b]? = _ from hb] at hc
  simp at hc
  exact ht hc.2

theorem St.kown (h : St W WK M B ep ls Be Bl cv Ds v us qs) (hk : Keep (Wb us) W w') {base : Nat} {e : TypeId} {s n : Nat} {x : Value} {xs : List Value} (hx : W.ownsRow base e s x n xs) (ht : e ≠ 5) : w'.ownsRow base e s x n xs := by
  refine hk.own hx (fun g hg q => ?_)
  obtain ⟨l, hl, hbl⟩ := q
  obtain ⟨p, hp⟩ := h.pays.at_ (List.getElem_mem hl)
  exact own_sep hx hp ht g hg hbl

theorem St.kbel (h : St W WK M B ep ls Be Bl cv Ds v us qs) (hk : Keep (Wb us) W w') (hM : M ≤ WK.heap.size) : Below M W w' :=
  hk.below (fun k hk' q => by have := (h.wb q).1; omega) (Nat.le_trans hM h.bel.size)

theorem St.kopen (h : St W WK M B ep ls Be Bl cv Ds v us qs) (hk : Keep (Wb us) W w') : Rf.Open WK.heap.size Ds w' :=
  h.op.kept (fun D hD => hk.block D (h.op.lt D hD) (fun q => by
    obtain ⟨_, cur, hc⟩ := h.wb q
    rw [(h.op.2 D hD).2] at hc
    cases hc))
end

theorem rd_belowM {W w' : World} {M : Nat} {v : Value} {ls : List (List UInt8)} {w : World} (h : Nm.Rd w v ls) (hb : Below w.heap.size w w') : Nm.Rd w' v ls := h.below hb
end Rc
end Go.Proofs.Ytjnodkjeiogloaa
