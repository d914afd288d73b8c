/- Layer 22: the program's Login. -/
import Derived.Test.YtbgggekkkcefcabDoorGrK
namespace Go.Proofs.YtbgggekkkcefcabDoor
set_option linter.ambiguousOpen false
open Go.RowKit
namespace Gr
set_option linter.unusedVariables false
set_option linter.unusedSimpArgs false

def zeroR : Rq := ⟨ByteArray.empty, ByteArray.empty, 0, 0, 0⟩
def zeroB : Bi := ⟨zeroS, zeroR, 0, 0, 0, false⟩

theorem zeroS_fit : zeroS.fit := ⟨Nat.zero_le _, Nat.zero_le _, by decide, by simp [zeroS, i64]⟩

theorem errV_no {n : Int} (h : n ≠ 0) : errV n = .iface 49 (.int .i64 n) := by
  unfold errV
  rw [if_neg h]
  rfl

def bL (r : Rq) (now births : Int) (full : Bool) : Bi := ⟨zeroS, r, 1099511627776, now, births, full⟩
def listL : List Rf := [⟨8, 18⟩, ⟨13, 19⟩, ⟨12, 20⟩]

theorem firstV_cons (P : Rf → Bool) (x : Rf) (L : List Rf) : firstV P (x :: L) = if P x then Er.noV x.no else firstV P L := rfl

theorem room_first (b : Bi) : firstV (pB b) bothR = errV (roomE b.births b.full) := by
  show (if decide (b.births < 0 ∨ 1048576 ≤ b.births) = true then Er.noV 18 else if b.full = true then Er.noV 19 else .nilIface) = _
  unfold roomE
  by_cases h : b.births < 0 ∨ 1048576 ≤ b.births
  · simp [h, errV]
  · cases hf : b.full <;> simp [h, errV]

theorem first_L (r : Rq) (now births : Int) (full : Bool) : firstV (pB (bL r now births full)) (listL ++ bothR) = errV (loginE r now births full) := by
  show (if (!nmB r.user) = true then Er.noV 8 else if (!lvlB r.level) = true then Er.noV 13 else if (!Ck.untilB now r.life 1099511627776) = true then Er.noV 12 else firstV (pB (bL r now births full)) bothR) = _
  rw [room_first]
  unfold loginE
  cases h1 : nmB r.user
  · rfl
  cases h2 : lvlB r.level
  · rfl
  cases h3 : Ck.untilB now r.life 1099511627776
  · rfl
  · rfl

theorem login_ok {r : Rq} {now births : Int} {full : Bool} (h : loginE r now births full = 0) : Ck.untilB now r.life 1099511627776 = true ∧ 0 ≤ births ∧ births < 1048576 := by
  unfold loginE at h
  cases h1 : nmB r.user
  · simp [h1] at h
  cases h2 : lvlB r.level
  · simp [h1, h2] at h
  cases h3 : Ck.untilB now r.life 1099511627776
  · simp [h1, h2, h3] at h
  simp only [h1, h2, h3, Bool.true_eq_false, if_false] at h
  obtain ⟨a, b, _⟩ := room_yes h
  exact ⟨rfl, a, b⟩

set_option maxRecDepth 100000 in
set_option maxHeartbeats 16000000 in
theorem login_p (r : Rq) (now births : Int) (full : Bool) (w : World) (hr : r.fit) :
    Calls Tryd.prog 7 #[r.v, nu now, nu births, .bool full] w fun e w' => e = .returned (.tuple #[(orS (loginE r now births full) (loginS r now births)).v, errV (loginE r now births full)]) ∧ Below w.heap.size w w' := by
  have hbf : (bL r now births full).fit := ⟨zeroS_fit, hr⟩
  have cR := fun (wx : World) (v : Value) (hR : RdR wx v listL) => refuses (bL r now births full) hbf listL (by decide) (by decide) (by decide) wx v hR (fun x hx hs => by simp only [listL, List.mem_cons, List.not_mem_nil, or_false] at hx; rcases hx with rfl | rfl | rfl <;> cases hs)
  rw [first_L] at cR
  have cB := fun (h : loginE r now births full = 0) (wx : World) => born_p (bL r now births full) ⟨0, 0, 0, 0, 0, r.user, ByteArray.empty, r.scopes, r.level, 0, 0, 0⟩ wx hr.1 (Nat.zero_le _) (login_ok h).1 (login_ok h).2.1 (login_ok h).2.2
  have HCR := hidG cR
  obtain ⟨E, hE⟩ : ∃ E, loginE r now births full = E := ⟨_, rfl⟩
  rw [hE] at cB HCR ⊢
  have HCB := hidG cB
  obtain ⟨b, hb⟩ : ∃ b, bL r now births full = b := ⟨_, rfl⟩
  rw [hb] at HCB HCR
  have hbv : b.v = .agg #[nu 0, nu 0, nu 0, nu 0, nu 0, .string ⟨#[]⟩, .string ⟨#[]⟩, .int .u64 0, nu 0, nu 0, nu 0, nu 0, .string r.user, .string r.label, su r.scopes, nu r.level, nu r.life, nu 1099511627776, nu now, nu births, .bool full] := by rw [← hb]; rfl
  have HBV := hidG hbv
  have HLS : Hid (({ (⟨0, 0, 0, 0, 0, r.user, ByteArray.empty, r.scopes, r.level, 0, 0, 0⟩ : Sn) with birth := b.births + 1, born := b.now, deadline := Ck.untilI b.now b.r.life b.latest } : Sn) = loginS r now births) := hidG (by rw [← hb]; rfl)
  have HE := hidG hE
  obtain ⟨wA, hA⟩ : ∃ wA, ((w.alloc (.cells r.arr 34)).alloc (.cells zeroS.arr 28)).alloc (.cells zeroB.arr 47) = wA := ⟨_, rfl⟩
  have q0 := three_0 w (.cells r.arr 34) (.cells zeroS.arr 28) (.cells zeroB.arr 47)
  have q1 := three_1 w (.cells r.arr 34) (.cells zeroS.arr 28) (.cells zeroB.arr 47)
  have q2 := three_at w (.cells r.arr 34) (.cells zeroS.arr 28) (.cells zeroB.arr 47)
  have HB : Hid (Below w.heap.size w wA) := hidG (by rw [← hA]; exact three_below _ _ _ _)
  rw [hA] at q0 q1 q2
  have HA : Hid (((w.alloc (.cells #[.string r.user, .string r.label, .int .u64 r.scopes, .int .i64 r.level, .int .i64 r.life] 34)).alloc (.cells #[.int .i64 0, .int .i64 0, .int .i64 0, .int .i64 0, .int .i64 0, .string ⟨#[]⟩, .string ⟨#[]⟩, .int .u64 0, .int .i64 0, .int .i64 0, .int .i64 0, .int .i64 0] 28)).alloc (.cells #[.int .i64 0, .int .i64 0, .int .i64 0, .int .i64 0, .int .i64 0, .string ⟨#[]⟩, .string ⟨#[]⟩, .int .u64 0, .int .i64 0, .int .i64 0, .int .i64 0, .int .i64 0, .string ⟨#[]⟩, .string ⟨#[]⟩, .int .u64 0, .int .i64 0, .int .i64 0, .int .i64 0, .int .i64 0, .int .i64 0, .bool false] 47) = wA) := hidG hA
  have Q0 := hidG q0
  have Q1 := hidG q1
  have Q2 := hidG q2
  clear hA q0 q1 q2 cB cR hE hb hbf hbv hr
  show Calls Tryd.prog 7 #[.agg #[.string r.user, .string r.label, su r.scopes, nu r.level, nu r.life], nu now, nu births, .bool full] w _
  go_enter Tryd.func7, Tryd.ntmps7
  go_wp2_with (first | (rw [HA.out]; refine wpList_store_bi rfl _ _ rfl (w.heap.size + 1 + 1) rfl b zeroB HBV.out.symm Q2.out ?_; intro w1 hh hg; have HH := hidG hh; have HG := hidG hg; clear hh hg) | (refine wpList_load_bi rfl _ rfl (w.heap.size + 1 + 1) rfl b HH.out ?_) | fail)
  refine (HCR.out _ (.slice (some ⟨w1.heap.size, 0, none⟩) 3 3) (row_new listL (by decide) w1)).mono ?_
  rintro e w2 ⟨rfl, hb2⟩
  have hb12 : Below w1.heap.size w1 w2 := box_then hb2
  have a0 := HG.out.block w.heap.size (Array.getElem?_eq_some_iff.1 Q0.out).1 (by intro h; have := Option.some.inj h; omega)
  have a1 := HG.out.block (w.heap.size + 1) (Array.getElem?_eq_some_iff.1 Q1.out).1 (by intro h; have := Option.some.inj h; omega)
  have e0 := (hb12.block _ (Array.getElem?_eq_some_iff.1 (a0.trans Q0.out)).1).trans (a0.trans Q0.out)
  have e1 := (hb12.block _ (Array.getElem?_eq_some_iff.1 (a1.trans Q1.out)).1).trans (a1.trans Q1.out)
  have e2 := (hb12.block _ (Array.getElem?_eq_some_iff.1 HH.out).1).trans HH.out
  have hB1 : Below w.heap.size w w1 := HB.out.grown HG.out HB.out.size (fun k e => by cases e; omega)
  have HB2 := hidG (hB1.trans (hb12.mono hB1.size))
  have k0 : w2.cell? ⟨w.heap.size, 0, none⟩ = some (.string r.user) := by rw [cell_of_row w2 _ 0 _ _ _ e0]; rfl
  have k2 : w2.cell? ⟨w.heap.size, 2, none⟩ = some (su r.scopes) := by rw [cell_of_row w2 _ 2 _ _ _ e0]; rfl
  have k3 : w2.cell? ⟨w.heap.size, 3, none⟩ = some (nu r.level) := by rw [cell_of_row w2 _ 3 _ _ _ e0]; rfl
  have E1 := hidG e1
  have E2 := hidG e2
  clear hb2 hb12 a0 a1 e0 e1 e2 hB1 HA
  by_cases hE0 : E = 0
  · subst hE0
    have HC := hidG (HCB.out rfl)
    rw [HLS.out] at HC
    rw [show errV 0 = Value.nilIface from rfl]
    go_wp2_with (first | (refine wpList_load_bi rfl _ rfl (w.heap.size + 1 + 1) rfl b E2.out ?_) | fail)
    refine (HC.out _).mono ?_
    rintro e w3 ⟨rfl, hb3⟩
    have e1 := (hb3.block _ (Array.getElem?_eq_some_iff.1 E1.out).1).trans E1.out
    have HB3 := hidG (HB2.out.trans (hb3.mono HB2.out.size))
    have E13 := hidG e1
    clear hb3 e1 k0 k2 k3
    go_wp2_with (first | (refine wpList_store_sn rfl _ _ rfl (w.heap.size + 1) rfl (loginS r now births) zeroS rfl E13.out ?_; intro w6 hh hg; have HF := hidG hh; have HG6 := hidG hg; clear hh hg) | fail)
    exact bodyPost_ret (results_sn rfl _ _ (w.heap.size + 1) (loginS r now births) rfl HF.out) rfl ⟨rfl, HB3.out.grown HG6.out HB3.out.size (fun k e => by cases e; omega)⟩
  · rw [errV_no hE0]
    go_wp2_with (first | (refine wpList_store_sn rfl _ _ rfl (w.heap.size + 1) rfl zeroS zeroS rfl E1.out ?_; intro w6 hh hg; have HF := hidG hh; have HG6 := hidG hg; clear hh hg) | fail)
    refine bodyPost_ret (results_sn rfl _ _ (w.heap.size + 1) zeroS rfl HF.out) rfl ⟨?_, HB2.out.grown HG6.out HB2.out.size (fun k e => by cases e; omega)⟩
    rw [orS, if_neg hE0, errV_no hE0]
    rfl
end Gr
end Go.Proofs.YtbgggekkkcefcabDoor
