/- A new disk; does Load tell this image?; what each law on areas asks first. -/
import Derived.Test.YtlgjnefieflmbaaDoorArePl
namespace Go.Proofs.YtlgjnefieflmbaaDoor
set_option linter.ambiguousOpen false
open Go.RowKit
namespace Ae
open Sm Ft Dk
set_option linter.unusedSimpArgs false
set_option linter.unusedVariables false

theorem fresh_any {Rep : World → Nat → (Nat → Prop) → Dsk → Prop} (H : Says Rep) (n : Int) (w : World) (h1 : 1 ≤ n) (h2 : n ≤ 4096) :
    Calls Tryd.prog 21 #[nu n] w fun e w' => ∃ p F, e = .returned (ptr p) ∧ Rep w' p F ⟨n, -1, []⟩ ∧ (∀ k, F k → w.heap.size ≤ k) ∧ Below w.heap.size w w' := by
  have c1 := Hid.mk' (H.newYes n w h1 h2)
  clear H
  go_enter Tryd.func21, Tryd.ntmps21
  go_wp2_with fail
  refine c1.out.mono ?_
  rintro e w1 ⟨p, F, rfl, hR, hF, hb⟩
  have HR : Hid (Rep w1 p F ⟨n, -1, []⟩ ∧ (∀ k, F k → w.heap.size ≤ k) ∧ Below w.heap.size w w1) := ⟨hR, hF, hb⟩
  clear hR hF hb c1
  go_wp2
  go_ret
  exact ⟨p, F, rfl, HR.out⟩

theorem is_any {Rep : World → Nat → (Nat → Prop) → Dsk → Prop} (LD : LoadC Rep) (w : World) (p : Nat) (F : Nat → Prop) (d : Dsk) (a n : Int) (ep : Nat) (v : Value) (x : List UInt8) (hR : Rep w p F d) (hN : Nb d) (ht : d.tr.length ≤ 1000000000) (hI : Img d a n ep x) (hv : RdB w v x) :
    Calls Tryd.prog 24 #[ptr p, nu a, nu n, .int .u32 (ep : Int), v] w fun e w' => e = .returned (.bool true) ∧ Below w.heap.size w w' := by
  obtain ⟨m1, m2, m3⟩ := may_out hI.mayb
  have hn2 := hN.n2
  have c1 := LD w p F d a n hR hN ht (by omega) (by omega)
  rw [hI.load] at c1
  have C1 := Hid.mk' c1
  have HV := Hid.mk' hv
  have cS : Hid (∀ wx u1 u2, RdB wx u1 x → RdB wx u2 x → Calls Tryd.prog 40 #[u1, u2] wx fun e w' => e = .returned (.bool true) ∧ Below wx.heap.size wx w') := fun wx u1 u2 q1 q2 => Pk.sameB_eq u1 u2 x wx q1 q2
  obtain ⟨av, cv, rfl, _⟩ := id hv
  have hEE : ((ep : Int) == (ep : Int)) = true := by simp
  clear hR hN ht hI hv LD c1
  go_enter Tryd.func24, Tryd.ntmps24
  go_wp2_with fail
  refine C1.out.mono ?_
  rintro e w1 ⟨r, he, ho, hb⟩
  have he' : e = .returned (.tuple #[.int .u32 (ep : Int), r, .nilIface]) := he
  subst he'
  have C2 := Hid.mk' (cS.out w1 r _ (own_rd ho) (HV.out.below hb))
  have HB := Hid.mk' hb
  obtain ⟨ar, cr, rfl, _⟩ := Nm.own_shape ho
  clear ho hb he C1 cS
  go_wp2_with fail
  refine C2.out.mono ?_
  rintro e w2 ⟨rfl, hb⟩
  have HB2 := Hid.mk' (below_fromS HB.out hb)
  clear hb C2
  go_wp2
  go_ret
  exact ⟨rfl, HB2.out⟩

theorem rd_newA (w : World) (l : List UInt8) (h : l.length ≤ 1000000) : RdB (w.alloc (.cells (l.map by1).toArray 5)) (.slice (some ⟨w.heap.size, 0, none⟩) l.length l.length) l := by
  refine ⟨_, l.length, rfl, Nat.le_refl _, by unfold maxLen; omega, fun _ => ⟨w.heap.size, 0, rfl, by simp, fun j hj => ?_⟩⟩
  rw [Nat.zero_add, cell_of_row _ w.heap.size j _ _ _ (heap_alloc_new w _)]
  simp [hj]

theorem small_image : ∃ d', save ⟨3, -1, []⟩ 0 1 1 [7, 8, 9] = (0, d') ∧ Nb d' ∧ d'.tr.length ≤ 10 ∧ Img d' 0 1 1 [7, 8, 9] := by
  have h0 : Nb ⟨3, -1, []⟩ := ⟨by decide, by decide, by decide, by decide, fun r hr => by simp at hr⟩
  obtain ⟨e1, e2, e3, e4⟩ := save_on (d := ⟨3, -1, []⟩) (a := 0) (n := 1) (ep := 1) (x := [7, 8, 9]) (by decide) (by decide) rfl
  have hI := save_img (d := ⟨3, -1, []⟩) (a := 0) (n := 1) (ep := 1) (x := [7, 8, 9]) (by decide) (by decide) e1
  refine ⟨_, Prod.ext e1 rfl, h0.save 0 1 1 [7, 8, 9], ?_, hI⟩
  have hp : (pcs [7, 8, 9]).length = 1 := by rw [pcs_count]; rfl
  rw [hp] at e4
  exact Nat.le_trans e4 (by decide)

set_option maxRecDepth 100000 in
set_option maxHeartbeats 4000000 in
theorem works_yes {Rep : World → Nat → (Nat → Prop) → Dsk → Prop} (H : Says Rep) (SV : SaveC Rep) (LD : LoadC Rep) (w : World) : Calls Tryd.prog 22 #[] w fun e w' => e = .returned (.bool true) ∧ Below w.heap.size w w' := by
  obtain ⟨d', hsv, hN, ht, hI⟩ := small_image
  have HSV := Hid.mk' hsv
  have HI : Hid (Nb d' ∧ d'.tr.length ≤ 10 ∧ Img d' 0 1 1 [7, 8, 9]) := ⟨hN, ht, hI⟩
  have HH := Hid.mk' H
  have c1 := Hid.mk' (fresh_any H 3 w (by decide) (by decide))
  have cV : Hid (∀ (wx : World) (p : Nat) (F : Nat → Prop) (v : Value), Rep wx p F ⟨3, -1, []⟩ → (∀ w', Keep F wx w' → RdB w' v [7, 8, 9]) → Pk.Nz v → Calls Tryd.prog 23 #[ptr p, nu 0, nu 1, .int .u32 1, v] wx fun e w' => e = .returned .nilIface ∧ ∃ G, Rep w' p G d' ∧ Keep F wx w' ∧ Goes wx F G) := fun wx p F v hR h1 h2 => by
    have := SV wx p F ⟨3, -1, []⟩ 0 1 1 v [7, 8, 9] hR ⟨by decide, by decide, by decide, by decide, fun r hr => by simp at hr⟩ (by decide) (by decide) (by decide) (by decide) h1 h2
    rw [HSV.out] at this
    exact this
  have cI : Hid (∀ (wx : World) (p : Nat) (F : Nat → Prop) (v : Value), Rep wx p F d' → RdB wx v [7, 8, 9] → Calls Tryd.prog 24 #[ptr p, nu 0, nu 1, .int .u32 1, v] wx fun e w' => e = .returned (.bool true) ∧ Below wx.heap.size wx w') := fun wx p F v hR hv => is_any LD wx p F d' 0 1 1 v [7, 8, 9] hR HI.out.1 (by have := HI.out.2.1; omega) HI.out.2.2 hv
  clear hsv hN ht hI H SV LD
  go_enter Tryd.func22, Tryd.ntmps22
  go_wp2_with fail
  refine c1.out.mono ?_
  rintro e w1 ⟨p, F, rfl, hR, hF, hb⟩
  have ba : Below w1.heap.size w1 (w1.alloc (.cells #[.int .u8 7, .int .u8 8, .int .u8 9] 5)) := (Below.refl _ _).alloc (Nat.le_refl _) _
  have hR2 := HH.out.keep hR (Keep.of_below (F := fun _ => False) ba) (fun _ _ h => h)
  have hrd := rd_newA w1 [7, 8, 9] (by decide)
  have C2 := Hid.mk' (cV.out _ p F _ hR2 (fun w' hk => rd_keep hrd hk (fun k hk a n c he => by
    have h1 := HH.out.lt hR k hk
    simp at he
    rw [← he.1]
    show w1.heap.size ≠ k
    omega)) (.inr ⟨_, _, _, rfl⟩))
  have HF : Hid (∀ k, F k → w.heap.size ≤ k) := hF
  have HB1 := Hid.mk' (below_fromS hb ba)
  clear hR hF hb ba hR2 hrd c1 cV
  go_wp2_with fail
  refine C2.out.mono ?_
  rintro e w2 ⟨rfl, G, r1, r2, r3⟩
  have ba : Below w2.heap.size w2 (w2.alloc (.cells #[.int .u8 7, .int .u8 8, .int .u8 9] 5)) := (Below.refl _ _).alloc (Nat.le_refl _) _
  have C3 := Hid.mk' (cI.out _ p G _ (HH.out.keep r1 (Keep.of_below (F := fun _ => False) ba) (fun _ _ h => h)) (rd_newA w2 [7, 8, 9] (by decide)))
  have HB2 : Hid (Below w.heap.size w (w2.alloc (.cells #[.int .u8 7, .int .u8 8, .int .u8 9] 5))) := below_fromS (HB1.out.trans (r2.below (fun k hk hc => by have := HF.out k hc; omega) HB1.out.size)) ba
  clear r1 r2 r3 ba C2 cI
  go_wp2_with fail
  refine C3.out.mono ?_
  rintro e w3 ⟨rfl, hb⟩
  have HB3 := Hid.mk' (below_fromS HB2.out hb)
  clear hb C3
  go_wp2
  go_ret
  exact ⟨rfl, HB3.out⟩

/-- A place that may be, out of any. -/
@[reducible] def plC (a n : Int) (ep : Nat) (pv : Value) : Array Value := #[nu a, nu n, .int .u32 (ep : Int), pv]

theorem below2A (w : World) (o1 o2 : Obj) : Below w.heap.size w ((w.alloc o1).alloc o2) :=
  ((Below.refl _ _).alloc (Nat.le_refl _) _).alloc (by simp) _

theorem heap2A (w : World) (o1 o2 : Obj) : ((w.alloc o1).alloc o2).heap[w.heap.size + 1]? = some o2 := by
  have := heap_alloc_new (w.alloc o1) o2
  simpa using this

theorem plSize (a b c d : Value) : (Tryd.prog.info? 50).map (·.size) = some #[a, b, c, d].size := by kernel_rfl

set_option maxRecDepth 100000 in
set_option maxHeartbeats 4000000 in
theorem right_any (w : World) (a n : Int) (ep : Nat) (pa : Option Addr) (len cap : Nat) (ha : -9223372036854775808 ≤ a ∧ a ≤ 9223372036854775807) (hn : -9223372036854775808 ≤ n ∧ n ≤ 9223372036854775807) (hc1 : len ≤ cap) (hc2 : cap ≤ maxLen) :
    Calls Tryd.prog 20 #[.agg (plC a n ep (.slice pa len cap))] w fun e w' => e = .returned (.agg (plC (a % 8) (1 + n % 12) ep (.slice pa (min len ((1 + n % 12).toNat * 256)) cap))) ∧ Below w.heap.size w w' := by
  unfold plC
  have c1 : Hid (∀ wx, Calls Tryd.prog 10 #[nu n, nu 12] wx fun e w' => e = .returned (nu (n % 12)) ∧ w' = wx) := fun wx => pick_any n 12 wx (by decide) (by decide) hn
  have c2 : Hid (∀ wx, Calls Tryd.prog 10 #[nu a, nu 8] wx fun e w' => e = .returned (nu (a % 8)) ∧ w' = wx) := fun wx => pick_any a 8 wx (by decide) (by decide) ha
  obtain ⟨m, hm, hm1, hm2⟩ : ∃ m : Nat, n % 12 = m ∧ 0 ≤ m ∧ m < 12 := ⟨(n % 12).toNat, by omega, by omega, by omega⟩
  have hmm : (1 + n % 12).toNat = 1 + m := by omega
  rw [hm] at c1
  rw [hmm, hm]
  obtain ⟨k, hk⟩ : ∃ k, min len ((1 + m) * 256) = k := ⟨_, rfl⟩
  have hkc : k ≤ cap := by omega
  have hw : IntKind.i64.wrap (1 + (m : Int)) = 1 + (m : Int) := by rw [IntKind.wrap_i64]; omega
  have hwm : IntKind.i64.wrap ((1 + (m : Int)) * 256) = (1 + (m : Int)) * 256 := by rw [IntKind.wrap_i64]; omega
  have hmin : ∀ wx, (Builtin.min_ #[3, 3] 3 #[.int .i64 (len : Int), .int .i64 ((1 + (m : Int)) * 256)]).run Tryd.prog wx = .ok (.int .i64 (k : Int)) wx := fun wx => by
    rw [min_twoA]
    congr 2
    split <;> omega
  have hsl : ∀ wx, (Instr.slice 33 (.slice pa len cap) none (some (.int .i64 (k : Int))) none).run Tryd.prog wx = .ok (.slice pa k cap) wx := fun wx => slice_to pa len cap k hkc wx
  rw [hk]
  generalize a % 8 = a' at *
  clear hk hmm hm ha hn hc1
  go_enter Tryd.func20, Tryd.ntmps20
  go_wp2_with fail
  refine (c1.out _).mono ?_
  rintro e w1 ⟨rfl, rfl⟩
  go_wp2_with fail
  go_region_held3 (fun w' => w'.cell? ⟨w.heap.size, 0, none⟩ = some (nu a) ∧ w'.cell? ⟨w.heap.size, 2, none⟩ = some (.int .u32 (ep : Int)) ∧ w'.cell? ⟨w.heap.size, 3, none⟩ = some (.slice pa len cap)) (go_keep) (first | (go_at_call 10; with_reducible refine (c2.out _).mono ?_; rintro e w' ⟨rfl, rfl⟩) | fail)
  all_goals (go_wp2; refine bodyPost_ret (results_cell_row rfl _ _ (w.heap.size + 1) _ _ _ _ rfl (heap2A w _ _) Tryd.underlying50 rfl (plSize _ _ _ _)) rfl ?_; exact ⟨by first | rfl | rw [hw], (below2A w _ _).drew⟩)
end Ae
end Go.Proofs.YtlgjnefieflmbaaDoor
