/- Rows of raw writes are copied and held against each other; the document's After. -/
import Derived.Test.YtcglehekiibgeaaDoorRefK
import Derived.Test.YtcglehekiibgeaaDoorSameR
namespace Go.Proofs.YtcglehekiibgeaaDoor
set_option linter.ambiguousOpen false
open Go.RowKit
namespace Dk
open Sm Ft
set_option linter.unusedSimpArgs false
set_option linter.unusedVariables false

theorem keepC {wr wx w3 : World} {g i k : Nat} {u v : Value} (hb : Below wx.heap.size wx w3) (q : wr.cell? ⟨g, i, none⟩ = some u ∧ wr.cell? ⟨g, k, none⟩ = some v) (l0 : g < wr.heap.size) (e : wx.heap = wr.heap) : w3.cell? ⟨g, i, none⟩ = some u ∧ w3.cell? ⟨g, k, none⟩ = some v := by
  have hc : ∀ p, wx.cell? p = wr.cell? p := fun p => by unfold World.cell?; rw [e]
  exact ⟨(hb.cell (p := ⟨g, i, none⟩) (by rw [e]; exact l0)).trans ((hc _).trans q.1), (hb.cell (p := ⟨g, k, none⟩) (by rw [e]; exact l0)).trans ((hc _).trans q.2)⟩

theorem keepG {wr wx w3 : World} {g : Nat} (hb : Below wx.heap.size wx w3) (l0 : g < wr.heap.size) (e : wx.heap = wr.heap) : g < w3.heap.size := Nat.lt_of_lt_of_le (by rw [e]; exact l0) hb.size

theorem keepAl {w3 : World} {g i k : Nat} {u v : Value} (q : w3.cell? ⟨g, i, none⟩ = some u ∧ w3.cell? ⟨g, k, none⟩ = some v) (l0 : g < w3.heap.size) (o : Obj) : (w3.alloc o).cell? ⟨g, i, none⟩ = some u ∧ (w3.alloc o).cell? ⟨g, k, none⟩ = some v := by
  have hb : Below w3.heap.size w3 (w3.alloc o) := (Below.refl _ _).alloc (Nat.le_refl _) _
  exact ⟨(hb.cell (p := ⟨g, i, none⟩) l0).trans q.1, (hb.cell (p := ⟨g, k, none⟩) l0).trans q.2⟩

set_option maxRecDepth 100000 in
set_option maxHeartbeats 2000000 in
theorem copyRaws_any (v : Value) (l : List Raw) (w : World) (hR : RdR w v l) (hl : l.length ≤ 1000000000) :
    Calls Tryd.prog 40 #[v] w fun e w' => ∃ v', e = .returned v' ∧ w'.ownsRow w.heap.size 53 2 v' l.length (rcs l) ∧ Below w.heap.size w w' := by
  obtain ⟨i0, hi, hz0, hz1, hz2⟩ := info_parts info_raw
  obtain ⟨a, cap, rfl, hc, hm, hcell⟩ := hR
  unfold maxLen at hm
  have HC := Hid.mk' hcell
  clear hcell
  go_enter Tryd.func40, Tryd.ntmps40
  go_wp2
  go_loopw [3, 4] (fun pv iv wr => ∃ k : Nat, k ≤ l.length ∧ iv = .int .i64 k ∧ wr.ownsRow w.heap.size 53 2 pv k (rcs (l.take k)) ∧ Below w.heap.size w wr) (fun _ iv _ => l.length - (intOf iv).toNat)
  case atStart => exact ⟨0, Nat.zero_le _, rfl, World.ownsRow_nil _ _ _ _, Below.refl _ _⟩
  case round =>
    obtain ⟨k, hk, rfl, hown, hbel⟩ := hrel
    by_cases hp : k < l.length
    · obtain ⟨g, o, rfl, hgl, hcj⟩ := HC.out (Nat.lt_of_le_of_lt (Nat.zero_le _) hp)
      obtain ⟨r, hr⟩ : ∃ r, l[k]? = some r := ⟨_, List.getElem?_eq_getElem hp⟩
      obtain ⟨q0, q1⟩ := hcj k r hr
      rw [← hbel.cell (p := ⟨g, o + k * 2, none⟩) hgl] at q0
      rw [← hbel.cell (p := ⟨g, o + k * 2 + 1, none⟩) hgl] at q1
      have HS : Hid (rcs (l.take (k + 1)) = rcs (l.take k) ++ rc r) := by
        show _ = _
        rw [List.take_add_one, hr, Option.toList_some, rcs_snoc]
      have h1 := Hid.mk' (rc_one r)
      clear hcj hr
      obtain ⟨rb, rt⟩ := r
      have hrc : Hid (rc (rb, rt) = [nu rb, .string (tx rt)]) := rfl
      rw [hrc.out] at h1 HS
      simp only at q0 q1
      generalize tx rt = f at *
      go_wp2_with (at_builtin; refine wpList_append_own _ rfl _ _ 57 rfl w.heap.size 53 i0 (.agg #[.int .i64 0, .string ⟨#[]⟩]) 2 24 Tryd.underlying57 hi hz0 hz1 hz2 rfl (by decide) _ _ _ rfl (hown.alloc _) ⟨wr.heap.size, 0, none⟩ 1 1 [nu rb, .string f] rfl rfl (World.news_of_block (heap_alloc_new _ _)) h1.out (by unfold maxLen; omega) (by omega) (by have := hbel.size; simp; omega) ?_; intro v' w4 hown4 hgrow _; have hbel4 : Below w.heap.size w w4 := Below.grown (hbel.alloc (by exact hbel.size) _) hgrow (by have := hbel.size; simp; omega) (fun k hk => (hown.lt k hk).1))
      go_roundw
      case rel => exact ⟨k + 1, by omega, by go_num, by rw [HS.out]; exact hown4, hbel4⟩
      case measure => simp [intOf]; omega
    · obtain rfl : k = l.length := by omega
      rw [List.take_length] at hown
      go_wp2
      go_ret
      exact ⟨_, rfl, hown, hbel⟩

theorem rslice_to (a : Option Addr) (len cap k : Nat) (h : k ≤ cap) (w : World) : (Instr.slice 57 (.slice a len cap) none (some (.int .i64 (k : Int))) none).run Tryd.prog w = .ok (.slice a k cap) w := by
  have h1 : (0 : Int) ≤ (k : Int) ∧ (k : Int) ≤ (cap : Int) := by omega
  have hu := Tryd.underlying57
  cases a with
  | none =>
    simp [Instr.slice, Instr.sliceBounds, Instr.sliceBound, asIntOf, run_underlying hu]
    intro hh; omega
  | some ad =>
    simp [Instr.slice, Instr.sliceBounds, Instr.sliceBound, asIntOf, run_underlying hu, Addr.add]
    intro hh; omega

theorem rAfter_no (d : Dsk) (base g : Nat) (v : Value) (n : Int) (w : World) (h : RDk w base g v d) (hl : d.tr.length ≤ 1000000000) (hn : ¬ (0 ≤ n ∧ n ≤ d.tr.length)) :
    Calls Tryd.prog 12 #[.pointer (some ⟨g, 0, none⟩), nu n] w fun e w' => e = .returned (.tuple #[.pointer none, nu 1]) ∧ w' = w := by
  obtain ⟨k0, k1, k2⟩ := h.cells
  obtain ⟨a, cap, rfl, hc, hm, _⟩ := own_rdR h.row
  unfold maxLen at hm
  clear h
  by_cases h1 : n < 0
  · clear hn
    go_enter Tryd.func12, Tryd.ntmps12
    go_wp2
    go_ret2
    exact ⟨rfl, rfl⟩
  · have h2 : (d.tr.length : Int) < n := by omega
    clear hn
    go_enter Tryd.func12, Tryd.ntmps12
    go_wp2
    go_ret2
    exact ⟨rfl, rfl⟩

set_option maxRecDepth 100000 in
set_option maxHeartbeats 2000000 in
theorem rAfter_yes (d : Dsk) (base g : Nat) (v : Value) (n : Nat) (w : World) (h : RDk w base g v d) (hl : d.tr.length ≤ 1000000000) (hn : n ≤ d.tr.length) :
    Calls Tryd.prog 12 #[.pointer (some ⟨g, 0, none⟩), nu n] w fun e w' => ∃ g2 v2, e = .returned (.tuple #[.pointer (some ⟨g2, 0, none⟩), nu 0]) ∧ RDk w' w.heap.size g2 v2 ⟨d.n, -1, d.tr.take n⟩ ∧ Below w.heap.size w w' := by
  obtain ⟨k0, k1, k2⟩ := h.cells
  have hgl : g < w.heap.size := (Array.getElem?_eq_some_iff.1 h.blk).1
  obtain ⟨a, cap, rfl, hc, hm, hcell⟩ := own_rdR h.row
  have hR : RdR w (.slice a d.tr.length cap) d.tr := ⟨a, cap, rfl, hc, hm, hcell⟩
  have hT : Hid (∀ wx, Below w.heap.size w wx → Calls Tryd.prog 40 #[.slice a n cap] wx fun e w' => ∃ a' cap', e = .returned (.slice a' (d.tr.take n).length cap') ∧ w'.ownsRow wx.heap.size 53 2 (.slice a' (d.tr.take n).length cap') (d.tr.take n).length (rcs (d.tr.take n)) ∧ Below wx.heap.size wx w') := fun wx hb => by
    refine (copyRaws_any _ _ wx ((hR.take n hn).below hb) (by rw [List.length_take]; omega)).mono ?_
    rintro e w' ⟨v', rfl, ho, hbb⟩
    obtain ⟨a', cap', rfl, _⟩ := own_rdR ho
    exact ⟨a', cap', rfl, ho, hbb⟩
  have s1 := fun wx => rslice_to a d.tr.length cap n (by omega) wx
  unfold maxLen at hm
  clear h hcell hR
  have hnb : (n : Int) ≤ (d.tr.length : Int) := by omega
  have hn0 : (0 : Int) ≤ (n : Int) := by omega
  go_enter Tryd.func12, Tryd.ntmps12
  go_wp2_with fail
  have Q : Hid (w.cell? ⟨g, 0, none⟩ = some (nu d.n) ∧ w.cell? ⟨g, 1, none⟩ = some (.slice a d.tr.length cap)) := ⟨k0, k1⟩
  go_region_held3 (fun w' => w'.cell? ⟨g, 0, none⟩ = some (nu d.n) ∧ w'.cell? ⟨g, 1, none⟩ = some (.slice a d.tr.length cap)) (first | assumption | exact Q.out | exact keepAl hS3 l3 _ | fail) (first | (go_at_call 40; with_reducible refine (hT.out _ ?hh).mono ?_; (case hh => (first | exact (Below.refl _ _).drew | exact Below.refl _ _ | fail)); rintro e w3 ⟨a3, cap3, rfl, ho3, hb3⟩; have hS3 := keepC hb3 Q.out hgl rfl; have l3 := keepG hb3 hgl rfl) | fail)
  have hlen : (d.tr.take n).length = n := by rw [List.length_take]; omega
  rw [hlen] at ho3
  have hR2 : Hid (RDk (w3.alloc (.cells #[nu d.n, .slice a3 n cap3, .int .i64 (-1)] 59)) w.heap.size w3.heap.size (.slice a3 n cap3) ⟨d.n, -1, d.tr.take n⟩) := ⟨heap_alloc_new _ _, by show World.ownsRow _ _ _ _ _ (d.tr.take n).length _; rw [hlen]; exact ho3.alloc _, hb3.size, fun e => by have := (ho3.lt _ e).2; omega⟩
  have hB2 : Hid (Below w.heap.size w (w3.alloc (.cells #[nu d.n, .slice a3 n cap3, .int .i64 (-1)] 59))) := Below.alloc (((Below.refl w.heap.size w).drew).trans hb3) hb3.size _
  go_wp2
  go_ret2
  exact ⟨_, _, rfl, hR2.out, hB2.out⟩
end Dk
end Go.Proofs.YtcglehekiibgeaaDoor
