/- ExpiryOrder: the law's own walk. -/
import Derived.Test.YthjdpfmnbmnbhaaExpU
import Derived.Test.YthjdpfmnbmnbhaaRoundIn
import Derived.Deep.RegionHeld3
import Derived.Deep.CutBlock
import Derived.BigQuiet
namespace Go.Proofs.Ythjdpfmnbmnbhaa
set_option linter.ambiguousOpen false
open Go.RowKit
namespace Ex
open Hh Ft
set_option linter.unusedSimpArgs false
set_option linter.unusedVariables false
attribute [local go_sem] Oper.semAt_some

theorem wrap_one (k : Nat) (h : k ≤ 1000) : wrap64 ((k : Int) + 1) = (k : Int) + 1 := by unfold wrap64; omega

theorem wrap_one2 (k : Nat) (h : k ≤ 1000) : IntKind.i64.wrap ((k : Int) + 1) = (k : Int) + 1 := by rw [IntKind.wrap_i64]; omega

theorem wrap_next (k j : Nat) (h : k ≤ 1000) (e : k + 1 = j) : wrap64 ((k : Int) + 1) = (j : Int) := by rw [wrap_one k h, ← e]; rfl

theorem wrap_next2 (k j : Nat) (h : k ≤ 1000) (e : k + 1 = j) : IntKind.i64.wrap ((k : Int) + 1) = (j : Int) := by rw [wrap_one2 k h, ← e]; rfl

theorem results_bool2 {fn : Func} {q : Tmp} (h : fn.results = #[.cell q 4]) (tmps : Array Value) (w : World) (g : Nat) (b : Bool) (hp : tmps.getD q undef = .pointer (some ⟨g, 0, none⟩)) (hg : w.cell? ⟨g, 0, none⟩ = some (.bool b)) :
    (results fn tmps).run Try.prog w = .ok (.bool b) w := by
  have hl : (loadVar 4 ⟨g, 0, none⟩).run Try.prog w = .ok (.bool b) w := by
    simp [loadVar, go_sem, hg]
  have hp' : tmps[q]?.getD undef = .pointer (some ⟨g, 0, none⟩) := by simpa using hp
  simp [results, h, hp', asAddr, hl]

theorem wrap_sub (n k j : Nat) (h : n ≤ 1000) (e : k + j = n) : wrap64 ((n : Int) - (k : Int)) = (j : Int) := by
  subst e
  unfold wrap64
  omega

theorem wrap_sub2 (n k j : Nat) (h : n ≤ 1000) (e : k + j = n) : IntKind.i64.wrap ((n : Int) - (k : Int)) = (j : Int) := by
  rw [IntKind.wrap_i64]
  subst e
  omega

set_option maxRecDepth 1000000 in
set_option maxHeartbeats 16000000 in
theorem expiryOrder_yes {R : RepXT} (C : ExpiryC R) (v : Value) (l : List Int) (now : Int) (w : World) (hR : RdU w v l) (hl : ∀ x ∈ l, I64e x) (hnow : I64e now) :
    Calls Try.prog 3 #[v, nu now] w fun e w' => e = .returned (.bool true) ∧ Below w.heap.size w w' := by
  obtain ⟨av, cv, rfl, hc1, hc2, hcell⟩ := hR
  obtain ⟨m, hm⟩ : ∃ m, l.length = m := ⟨_, rfl⟩
  obtain ⟨n, hn⟩ : ∃ n, min m 32 = n := ⟨_, rfl⟩
  obtain ⟨d, hd⟩ : ∃ d : Nat → Int, (fun i => (l.getD i 0) % 1099511627777) = d := ⟨_, rfl⟩
  have hdr : ∀ i, 0 ≤ d i ∧ d i ≤ 1099511627776 := fun i => by
    rw [← hd]
    have := Int.emod_nonneg (l.getD i 0) (b := 1099511627777) (by omega)
    have := Int.emod_lt_of_pos (l.getD i 0) (b := 1099511627777) (by omega)
    dsimp only
    omega
  have HM := Hid.mk' hm
  have HN := Hid.mk' hn
  have HD := Hid.mk' hd
  have HDR := Hid.mk' hdr
  have HCL := Hid.mk' hcell
  have HI := Hid.mk' hl
  rw [hm] at hc1 ⊢
  unfold maxLen at hc2
  have hcI : (cv : Int) ≤ 9223372036854775807 := by omega
  have HW0 : Hid (∀ wx, Calls Try.prog 5 #[] wx fun e w' => e = .returned (.bool true) ∧ Below wx.heap.size wx w') := fun wx => works_any C wx
  have HNEW : Hid (∀ wx, Calls Try.prog 6 #[] wx fun e w' => ∃ p F, e = .returned (ptr p) ∧ Hid (Xe R wx w' p F [] ∧ (∀ k, F k → wx.heap.size ≤ k) ∧ Below wx.heap.size wx w')) := fun wx => Xe.new C wx
  have hmin : ∀ wx, (Builtin.min_ #[3, 3] 3 #[.int .i64 (m : Int), .int .i64 32]).run Try.prog wx = .ok (.int .i64 (n : Int)) wx := fun wx => by
    have h1 : (Builtin.min_ #[3, 3] 3 #[.int .i64 (m : Int), .int .i64 32]).run Try.prog wx = .ok (.int .i64 (if (32 : Int) < (m : Int) then 32 else (m : Int))) wx := run_min_int2 ..
    rw [h1]
    congr 3
    split <;> omega
  have hw0 : wrap64 ((n : Int) - 1) = (n : Int) - 1 := by
    have : n ≤ 32 := by omega
    unfold wrap64; omega
  clear hm hn hd hdr hcell hl
  refine (callsIn_wide (n := 8)).1 ?_
  refine callsIn_of_wp_marks Try.func3 rfl trivial ?_ rfl
  refine wpIn_wide.2 ?_
  simp only [Try.ntmps3, List.size_toArray, List.length_cons, List.length_nil, Nat.reduceAdd, Nat.reduceSub, Array.replicate_succ, Array.replicate_zero, List.push_toArray, List.append_toArray, List.nil_append, List.cons_append]
  obtain ⟨q0, hq0⟩ : ∃ q0, w.heap.size = q0 := ⟨_, rfl⟩
  obtain ⟨q1, hq1⟩ : ∃ q1, q0 + 1 = q1 := ⟨_, rfl⟩
  obtain ⟨W1, hW1⟩ : ∃ W1, (w.alloc (.cells #[nu now] 3)).alloc (.cells #[.bool false] 4) = W1 := ⟨_, rfl⟩
  have hb1 : Below w.heap.size w W1 := by rw [← hW1]; exact ((Below.refl _ _).alloc (Nat.le_refl _) _).alloc (by simp) _
  have hs1 : W1.heap.size = q0 + 2 := by rw [← hW1, ← hq0]; simp
  have f0 : W1.heap[q0]? = some (.cells #[nu now] 3) := by
    rw [← hW1, ← hq0]
    exact (Below.heap_alloc _ _ _ (by simp)).trans (heap_alloc_new _ _)
  have f1 : W1.heap[q1]? = some (.cells #[.bool false] 4) := by
    have := heap_alloc_new (w.alloc (.cells #[nu now] 3)) (.cells #[.bool false] 4)
    rw [World.size_alloc] at this
    rw [← hW1, ← hq1, ← hq0]
    exact this
  have HQ0 := Hid.mk' hq0
  have HQ1 := Hid.mk' hq1
  have HW1 := Hid.mk' hW1
  have HB1 := Hid.mk' hb1
  have HF0 := Hid.mk' f0
  have HF1 := Hid.mk' f1
  have HS1 := Hid.mk' hs1
  clear hq0 hq1 hW1 hb1 hs1 f0 f1
  go_upto_region 1 with fail
  rw [HQ0.out, HQ1.out, HW1.out]
  go_wp2_with fail
  refine (HW0.out W1).mono ?_
  rintro e w2 ⟨rfl, hb2⟩
  have HB2 := Hid.mk' hb2
  clear hb2
  go_wp2_with fail
  refine (HNEW.out w2).mono ?_
  rintro e w3 ⟨p, F, rfl, HX3⟩
  obtain ⟨ab, hab⟩ : ∃ ab, w3.heap.size = ab := ⟨_, rfl⟩
  obtain ⟨nb, hnb⟩ : ∃ nb, ab + 1 = nb := ⟨_, rfl⟩
  have HSA : Hid (Sa R w p q0 q1 ab nb now n d n ((w3.alloc (.cells ((List.range 32).map (fun _ => nu 0)).toArray 26)).alloc (.cells #[.int .i64 (n : Int)] 3))) := by
    obtain ⟨hx, hf, hb3⟩ := HX3.out
    have hb2 := HB2.out
    have hs1 := HS1.out
    have hq := HQ0.out
    have hq1 := HQ1.out
    have hs2 := hb2.size
    have hs3 := hb3.size
    have hz : dzE n n d = fun _ => 0 := by
      funext t
      unfold dzE
      rw [if_neg (by omega)]
    have k13 : Keep (fun _ => False) W1 w3 := (Keep.of_below hb2).trans (Keep.of_below (F := fun _ => False) hb3) (fun _ _ e => e)
    have k34 : Keep (fun _ => False) w3 ((w3.alloc (.cells ((List.range 32).map (fun _ => nu 0)).toArray 26)).alloc (.cells #[.int .i64 (n : Int)] 3)) := ((Keep.refl _ w3).alloc _).alloc _
    have b34 := k34.below (B := w3.heap.size) (fun _ _ e => e) (Nat.le_refl _)
    refine ⟨F, [], ⟨C.below hx.rep b34, fun k hk => by have := hf k hk; have := HB1.out.size; omega, (HB1.out.trans (hb2.mono HB1.out.size)).trans ((hx.bel.trans (b34.mono (by omega))).mono (by have := HB1.out.size; omega))⟩, From.nil n d, ⟨(k13.trans k34 (fun _ _ e => e)).at HF0.out (fun e => e), (k13.trans k34 (fun _ _ e => e)).at HF1.out (fun e => e), ?_, ?_, by omega⟩, fun k hk => ⟨fun e => ?_, ?_⟩⟩
    · rw [hz, ← hab]
      exact (Below.heap_alloc _ _ _ (by simp)).trans (heap_alloc_new _ _)
    · have := heap_alloc_new (w3.alloc (.cells ((List.range 32).map (fun _ => nu 0)).toArray 26)) (.cells #[.int .i64 (n : Int)] 3)
      rw [World.size_alloc, hab, hnb] at this
      exact this
    · have h1 := hf k e
      have h2 := C.lt hx.rep k e
      rcases hk with e | e | e | e <;> omega
    · have := HB1.out.size
      rcases hk with e | e | e | e <;> omega
  have HAB := Hid.mk' hab
  have HNB := Hid.mk' hnb
  clear HX3 hab hnb
  go_wp2_with fail
  rw [HAB.out, HNB.out]
  go_loopw [8] (fun iv wr => ∃ (j : Nat) (i : Int), j ≤ n ∧ iv = .int .i64 i ∧ i = (j : Int) - 1 ∧ Hid (Sa R w p q0 q1 ab nb now n d j wr)) (fun iv _ => (intOf iv + 1).toNat)
  case atStart => exact ⟨n, _, Nat.le_refl _, rfl, hw0, HSA⟩
  case round =>
    clear HSA hw0
    obtain ⟨j, i, hj, rfl, hi, HS⟩ := hrel
    have hn32 : n ≤ 32 := by have := HN.out; omega
    have hnm : n ≤ m := by have := HN.out; omega
    by_cases hj0 : j = 0
    · obtain rfl : i = -1 := by omega
      subst hj0
      obtain ⟨F, L, hx, hfr, hla, hq⟩ := HS.out
      obtain ⟨v0, v1, v2, v3⟩ := hla.cells
      clear hi hj
      obtain ⟨ob, hob⟩ : ∃ ob, wr.heap.size = ob := ⟨_, rfl⟩
      obtain ⟨cb, hcb⟩ : ∃ cb, ob + 1 = cb := ⟨_, rfl⟩
      obtain ⟨lb, hlb⟩ : ∃ lb, cb + 1 = lb := ⟨_, rfl⟩
      obtain ⟨W6, hW6⟩ : ∃ W6, ((wr.alloc (.cells #[.bool false, .bool false, .bool false, .bool false, .bool false, .bool false, .bool false, .bool false, .bool false, .bool false, .bool false, .bool false, .bool false, .bool false, .bool false, .bool false, .bool false, .bool false, .bool false, .bool false, .bool false, .bool false, .bool false, .bool false, .bool false, .bool false, .bool false, .bool false, .bool false, .bool false, .bool false, .bool false] 33)).alloc (.cells #[.int .i64 0] 3)).alloc (.cells #[.int .i64 (-1), .int .i64 0] 32) = W6 := ⟨_, rfl⟩
      have hb6 : Below wr.heap.size wr W6 := by rw [← hW6]; exact (((Below.refl _ _).alloc (Nat.le_refl _) _).alloc (by simp) _).alloc (by simp; omega) _
      have hs6 : W6.heap.size = ob + 3 := by rw [← hW6, ← hob]; simp
      have hlv : Lv2 W6 ob cb lb (outF []) 0 (lastE []) := by
        have n1 := heap_alloc_new wr (.cells #[.bool false, .bool false, .bool false, .bool false, .bool false, .bool false, .bool false, .bool false, .bool false, .bool false, .bool false, .bool false, .bool false, .bool false, .bool false, .bool false, .bool false, .bool false, .bool false, .bool false, .bool false, .bool false, .bool false, .bool false, .bool false, .bool false, .bool false, .bool false, .bool false, .bool false, .bool false, .bool false] 33)
        have n2 := heap_alloc_new (wr.alloc (.cells #[.bool false, .bool false, .bool false, .bool false, .bool false, .bool false, .bool false, .bool false, .bool false, .bool false, .bool false, .bool false, .bool false, .bool false, .bool false, .bool false, .bool false, .bool false, .bool false, .bool false, .bool false, .bool false, .bool false, .bool false, .bool false, .bool false, .bool false, .bool false, .bool false, .bool false, .bool false, .bool false] 33)) (.cells #[.int .i64 0] 3)
        have n3 := heap_alloc_new ((wr.alloc (.cells #[.bool false, .bool false, .bool false, .bool false, .bool false, .bool false, .bool false, .bool false, .bool false, .bool false, .bool false, .bool false, .bool false, .bool false, .bool false, .bool false, .bool false, .bool false, .bool false, .bool false, .bool false, .bool false, .bool false, .bool false, .bool false, .bool false, .bool false, .bool false, .bool false, .bool false, .bool false, .bool false] 33)).alloc (.cells #[.int .i64 0] 3)) (.cells #[.int .i64 (-1), .int .i64 0] 32)
        have up : ∀ {V : World} {b : Nat} {x : Obj} (o : Obj), V.heap[b]? = some x → (V.alloc o).heap[b]? = some x := fun o h => (Below.heap_alloc _ _ _ (Array.getElem?_eq_some_iff.1 h).1).trans h
        simp only [World.size_alloc] at n2 n3
        subst hlb hcb hob
        rw [← hW6]
        exact ⟨up _ (up _ n1), up _ n2, n3, by omega⟩
      have hx6 := hx.below C hb6
      have hla6 := hla.below hb6
      have cDue := Hid.mk' (hx6.due C now)
      have HX6 := Hid.mk' hx6
      have HLA := Hid.mk' hla6
      have HLV := Hid.mk' hlv
      have HFR := Hid.mk' hfr
      have HQ := Hid.mk' hq
      have HOB := Hid.mk' hob
      have HCB := Hid.mk' hcb
      have HLB := Hid.mk' hlb
      have HW6 := Hid.mk' hW6
      have HS6 := Hid.mk' hs6
      have HLT := Hid.mk' hla.lt
      have HLF := Hid.mk' (C.lt hx.rep)
      have HWL := Hid.mk' hx.bel.size
      obtain ⟨y0, y1, y2, y3⟩ := hla6.cells
      clear hx hfr hla hq hob hcb hlb hW6 hb6 hs6 hlv hx6 hla6 v0 v1 v2 HS
      go_upto_region 15 with fail
      rw [HOB.out, HCB.out, HLB.out, HW6.out]
      go_wp2_with fail
      refine cDue.out.mono ?_
      rintro e w7 ⟨gf, lb7, rfl, HQ7⟩
      go_wp2_with fail
      obtain ⟨hx7, hb7, X, hit, hXn⟩ := HQ7.out
      obtain ⟨gf', lb2, kk, e9, hent, hXl, hsq⟩ := hit
      simp only [Value.func.injEq, Fn.func.injEq, true_and] at e9
      obtain ⟨rfl, rfl⟩ := e9
      obtain ⟨hi, hhi⟩ : ∃ hi, w7.heap.size + 2 + kk = hi := ⟨_, rfl⟩
      have hSB : Sb R w w7 p X hi q0 q1 ab nb ob cb lb now n d F [] L w7 := by
        have hs6 := HS6.out
        have hob := HOB.out
        have hcb := HCB.out
        have hlb := HLB.out
        have h67 := hb7.size
        have hqk : ∀ k, Qa q0 q1 ab nb k → k < wr.heap.size := HLT.out
        refine ⟨Lp.start C hx7 (fun j hj => ⟨hXl j hj, fun e => ?_, ?_⟩), HLA.out.below hb7, HLV.out.keep (Keep.of_below (F := fun _ => False) hb7) (fun _ _ e => e), fun k hk => ?_, fun k h1 h2 => ?_⟩
        · have := HLF.out j e
          have := hXn j hj
          omega
        · have := hXn j hj
          have := HX6.out.bel.size
          omega
        · rcases hk with hk | hk
          · have h1 := hqk k hk
            obtain ⟨h2, h3⟩ := HQ.out k hk
            exact ⟨h2, fun e => by have := hXn k e; omega, by omega, h3⟩
          · have h4 := HWL.out
            have h5 : wr.heap.size ≤ k ∧ k < W6.heap.size := by rcases hk with e | e | e <;> omega
            exact ⟨fun e => by have := HLF.out k e; omega, fun e => by have := hXn k e; omega, by omega, by omega⟩
        · have h3 := hqk k h1
          rcases h2 with e | e | e <;> omega
      have HSB := Hid.mk' hSB
      have HHI := Hid.mk' hhi
      have HXL := Hid.mk' hXl
      have HSQ := Hid.mk' hsq
      clear hx7 hb7 hXn hSB hhi hsq HQ7 cDue HX6 HLA HLV HQ HOB HCB HLB HW6 HS6 HLT HLF HWL y0 y1 y2 y3
      refine Rf.wp_rangeN rfl hent HSQ.out (fun _ => rfl) HXL.out
        (fun c m W' => ∃ pre, Sb R w w7 p X hi q0 q1 ab nb ob cb lb now n d c.1 pre c.2 W' ∧ Gone n d now pre c.2 ∧ c.2.length = m)
        (fun c m x W' => ∃ pre, Sb R w w7 p X hi q0 q1 ab nb ob cb lb now n d c.1 pre c.2 W' ∧ Gone n d now pre (x :: c.2) ∧ x.t ≤ now ∧ c.2.length + 1 = m)
        (fun c mm x a' W' => ∃ xb, a' = { tmps := #[.slice av m cv, nu now, undef, .pointer (some ⟨q0, 0, none⟩), .pointer (some ⟨q1, 0, none⟩), ptr p, .pointer (some ⟨ab, 0, none⟩), .pointer (some ⟨nb, 0, none⟩), .int .i64 (-1), .pointer (some ⟨ob, 0, none⟩), .pointer (some ⟨cb, 0, none⟩), .pointer (some ⟨lb, 0, none⟩), .pointer (some ⟨xb, 0, none⟩), undef, undef, undef, undef, undef, undef, .bool true, .bool false, ptr p, .slice av m cv, .int .i64 (m : Int), .int .i64 (n : Int), .int .i64 (n : Int), .int .i64 (wrap64 ((n : Int) - 1)), .int .i64 (-1), .bool false, u29, u30, u31, u32, u33, u34, u35, u36, u37, u38, u39, u40, u41, u42, u43, u44, u45, u46, u47, .agg #[nu (-1), nu 0], ptr p, nu now, .func (.func gf) #[] lb7, .agg #[nu x.s, nu x.b], undef, undef, undef, undef, undef, undef, undef, undef, undef, undef, undef, undef, undef, undef, undef, undef, undef, undef, undef, undef, undef, undef, undef, undef, undef, undef, undef, undef, undef, undef, undef, undef, undef, undef, undef, undef, undef, undef, undef, undef, undef, undef, undef, undef, undef, undef, undef, undef, undef, undef, undef, undef, undef, undef, undef, undef, undef, undef, undef, undef, undef, undef, undef, undef, undef, undef, undef, undef, undef, undef, undef, undef, undef, undef, undef, undef, undef, undef, undef, undef, undef, undef, undef, undef, undef, undef, undef, undef, undef, undef, undef, undef, undef, undef, undef, undef, undef, undef, undef, undef, undef, undef, undef, undef, undef, undef, undef, undef, undef, undef, undef, undef, undef, undef, undef, undef, undef, undef, undef, undef, undef, undef, undef, undef, undef], defers := [] } ∧ W'.heap[xb]? = some (.cells #[nu x.s, nu x.b] 32) ∧ hi ≤ xb ∧ ¬ c.1 xb ∧ ∃ pre, Sb R w w7 p X hi q0 q1 ab nb ob cb lb now n d c.1 pre c.2 W' ∧ Gone n d now pre (x :: c.2) ∧ x.t ≤ now ∧ c.2.length + 1 = mm)
        (fun W' => ∃ F' L' pre, Sb R w w7 p X hi q0 q1 ab nb ob cb lb now n d F' pre L' W' ∧ Gone n d now pre L' ∧ (∀ x M, L' = x :: M → now < x.t))
        (fun _ _ => False)
        L.length ((F, L) : Kn) ?ready ?foot ?restI ?restM ?restD ?restX ?step ?last ⟨[], HSB.out, Gone.start HFR.out now, rfl⟩ ?assign ?body ?done ?stop
      case ready =>
        rintro c m W' ⟨pre, hS, _⟩
        exact hS.1.ready
      case foot =>
        rintro c m W' ⟨pre, hS, _⟩ b hb
        rw [HHI.out]
        exact (hS.1.off b hb).2
      case restI =>
        intro c m A B hk
        rw [HHI.out] at hk
        rintro ⟨pre, hS, h⟩
        exact ⟨pre, Sb.rest C A B hk hS, h⟩
      case restM =>
        intro c m x a' A B hk
        rw [HHI.out] at hk
        rintro ⟨xb, h1, h2, h3, h4, pre, hS, h⟩
        exact ⟨xb, h1, hk.at h2 (by omega), h3, h4, pre, Sb.rest C A B hk hS, h⟩
      case restD =>
        intro A B hk
        rw [HHI.out] at hk
        rintro ⟨F', L', pre, hS, h⟩
        exact ⟨F', L', pre, Sb.rest C A B hk hS, h⟩
      case restX => exact fun _ _ _ _ h => h.elim
      case step =>
        rintro c m x c' W0 W1' hsz ⟨pre, hS, hG, hc⟩ hst
        rw [HHI.out] at hsz ⊢
        obtain ⟨e1, e2, e3, e4⟩ := Sb.step C hS hsz hst
        rw [e1] at hG hc
        exact ⟨⟨pre, e3, hG, e2, hc⟩, e4⟩
      case last =>
        rintro c m c' W0 W1' hsz ⟨pre, hS, hG, hc⟩ hst
        rw [HHI.out]
        exact ⟨⟨c.1, c.2, pre, Sb.below C hS hst.2, hG, hst.1⟩, Rf.Lets.keep (Keep.of_below (F := fun _ => False) hst.2) (fun _ e => e.elim)⟩
      case assign =>
        rintro l' c m x W' K ⟨pre, hS, hG, ht, hc⟩ hsz hK
        have HAA := Hid.mk' hS
        have HGG := Hid.mk' hG
        have HT := Hid.mk' ht
        clear hS hG ht
        obtain ⟨xb, hxb⟩ : ∃ xb, W'.heap.size = xb := ⟨_, rfl⟩
        obtain ⟨Wz, hWz⟩ : ∃ Wz, W'.alloc (.cells #[nu 0, nu 0] 32) = Wz := ⟨_, rfl⟩
        have hz : Wz.heap[xb]? = some (.cells #[nu 0, nu 0] 32) := by rw [← hWz, ← hxb]; exact heap_alloc_new _ _
        have hkz : Keep (fun _ => False) W' Wz := by rw [← hWz]; exact (Keep.refl _ _).alloc _
        have HZ := Hid.mk' hz
        have HXB := Hid.mk' hxb
        have HWZ := Hid.mk' hWz
        have HKZ := Hid.mk' hkz
        have HSZ := Hid.mk' hsz
        have HK := Hid.mk' hK
        clear hz hxb hWz hkz hsz hK
        gi_wp2_with (first | (rw [HWZ.out, HXB.out]; refine wpListIn_store_lnk rfl _ _ rfl xb rfl _ _ rfl _ _ HZ.out ?_; intro w8 hl8 hg8 hs8; have HL8 := Hid.mk' hl8; have HG8 := Hid.mk' hg8; clear hl8 hg8 hs8) | fail)
        have hk8 : Keep (fun _ => False) W' w8 := HKZ.out.grown HG8.out (fun j e => .inr (by injection e with e; have := HXB.out; omega))
        have hlt : ∀ j, c.1 j → j < xb := fun j hj => by have := C.lt HAA.out.1.xe.rep j hj; have := HXB.out; omega
        refine HK.out _ _ (Rf.Lets.keep hk8 (fun _ e => e.elim)) ⟨xb, rfl, HL8.out, ?_, fun e => ?_, pre, HAA.out.keep C hk8 (fun _ e => e.elim), HGG.out, HT.out, hc⟩
        · have := HSZ.out; have := HHI.out; have := HXB.out; omega
        · have := hlt _ e; omega
      case body =>
        rintro l' c mm x a' W5 ⟨xb, rfl, hlx, hhx, hn1, pre, hS, hG, ht, hc⟩ hsz
        rw [HHI.out] at hsz
        obtain ⟨F1, L1⟩ := c
        dsimp only at hS hG hn1 hc
        obtain ⟨i, hin, rfl, hof, hG2, hpl, hlst⟩ := hG.step ht
        dsimp only at hlx ht ⊢
        have hi32 : i < 32 := by omega
        obtain ⟨cnt, hcnt⟩ : ∃ cnt, pre.length = cnt := ⟨_, rfl⟩
        obtain ⟨c9, hc9⟩ : ∃ c9, cnt + 1 = c9 := ⟨_, rfl⟩
        have hIn2 : ¬ n < c9 := by omega
        have hil : i ≤ 1000 := by omega
        have hcl : cnt ≤ 1000 := by omega
        have hIw : wrap64 ((i : Int) + 1) = (i : Int) + 1 := wrap_one i hil
        have hIw2 : IntKind.i64.wrap ((i : Int) + 1) = (i : Int) + 1 := wrap_one2 i hil
        have hIc : wrap64 ((cnt : Int) + 1) = (c9 : Int) := wrap_next cnt c9 hcl hc9
        have hIc2 : IntKind.i64.wrap ((cnt : Int) + 1) = (c9 : Int) := wrap_next2 cnt c9 hcl hc9
        have hI0 : ¬ ((i : Int) < 0) := Int.not_lt.2 (Int.natCast_nonneg i)
        have hI1 : (0 : Int) ≤ (i : Int) := Int.natCast_nonneg i
        have hI2 : (i : Int) < 32 := Int.ofNat_lt.2 hi32
        have hIn : ¬ n ≤ i := Nat.not_le.2 hin
        have hIt : ¬ now < d i := Int.not_lt.2 ht
        have HIW := Hid.mk' hIw
        have HIW2 := Hid.mk' hIw2
        have HIC := Hid.mk' hIc
        have HIC2 := Hid.mk' hIc2
        clear hIw hIw2 hIc hIc2 hI0
        obtain ⟨la, hla⟩ : ∃ la, lastE pre = la := ⟨_, rfl⟩
        have hxq : ∀ k, Qa q0 q1 ab nb k ∨ Qb ob cb lb k → k ≠ xb := fun k hk e => by
          have := (hS.2.2.2.1 k hk).2.2.1
          have := HHI.out
          omega
        -- what is known of the memory, whatever the regions draw
        have HST : Hid (∀ wz, Keep (fun _ => False) W5 wz → Sb R w w7 p X hi q0 q1 ab nb ob cb lb now n d F1 pre L1 wz ∧ wz.heap[xb]? = some (.cells #[nu (i : Int), nu ((i : Int) + 1)] 32) ∧ Rf.Lets X w7.heap.size hi W5 wz) := fun wz hk =>
          ⟨hS.keep C hk (fun _ e => e.elim), hk.at hlx (fun e => e), Rf.Lets.keep hk (fun _ e => e.elim)⟩
        have HS17 : Hid (W5.drew.cell? ⟨xb, 0, none⟩ = some (nu (i : Int)) ∧ W5.drew.cell? ⟨xb, 1, none⟩ = some (nu ((i : Int) + 1)) ∧ W5.drew.cell? ⟨nb, 0, none⟩ = some (nun n) ∧ W5.drew.cell? ⟨ob, i, none⟩ = some (.bool false) ∧ W5.drew.cell? ⟨ab, i, none⟩ = some (nu (d i)) ∧ W5.drew.cell? ⟨q0, 0, none⟩ = some (nu now)) := by
          obtain ⟨g1, g2, g3⟩ := HST.out W5.drew (Keep.refl (fun _ => False) W5).drew
          have e1 := g1.2.2.1.eo.cell hi32
          rw [hof] at e1
          have e2 := g1.2.1.ea.cell hi32
          rw [dzE_all n d hin] at e2
          exact ⟨(link_cells g2).1, (link_cells g2).2, g1.2.1.cells.2.2.2, e1, e2, g1.2.1.cells.1⟩
        have HL : Hid (∀ wz, Keep (fun _ => False) W5 wz → wz.cell? ⟨xb, 0, none⟩ = some (nu (i : Int)) ∧ wz.cell? ⟨lb, 0, none⟩ = some (nu la.1) ∧ wz.cell? ⟨ab, i, none⟩ = some (nu (d i)) ∧ (∀ k, k < n → wz.cell? ⟨ab, k, none⟩ = some (nu (d k)))) := fun wz hk => by
          obtain ⟨g1, g2, g3⟩ := HST.out wz hk
          have e2 : ∀ k, k < n → wz.cell? ⟨ab, k, none⟩ = some (nu (d k)) := fun k hkn => by
            have := g1.2.1.ea.cell (j := k) (by omega)
            rwa [dzE_all n d hkn] at this
          have e3 := g1.2.2.1.cells.2.2.1
          rw [hla] at e3
          exact ⟨(link_cells g2).1, e3, e2 i hin, e2⟩
        have HLA : Hid (la.1 = -1 ∨ ∃ k, k < n ∧ la.1 = (k : Int) ∧ (d k < d i ∨ (d k = d i ∧ k < i))) := by
          rw [← hla]
          unfold lastE
          cases hgl : pre.getLast? with
          | none => exact .inl rfl
          | some y =>
            obtain ⟨k, hk, rfl, h⟩ := hlst y hgl
            exact .inr ⟨k, hk, rfl, h⟩
        have HRF : Hid (∀ wz, Keep (fun _ => False) W5 wz → _) := fun wz hk => by
          obtain ⟨g1, g2, g3⟩ := HST.out wz hk
          have g4 := g1.2.2.1
          rw [hcnt, hla] at g4
          exact (round_facts g1.2.1 g4 g2 g1.2.2.2.2 (fun e => hxq xb (.inr e) rfl) hi32 hc9).1
        have HEND : Hid (∀ wz, Keep (fun _ => False) W5 wz → Rf.Lets X w7.heap.size (w7.heap.size + 2 + kk) W5 ((((wz.setCell ⟨ob, i, none⟩ (.bool true)).setCell ⟨lb, 0, none⟩ (nu (i : Int))).setCell ⟨lb, 1, none⟩ (nu ((i : Int) + 1))).setCell ⟨cb, 0, none⟩ (nun c9)) ∧ ∃ (c : Kn) (j : Nat), j < mm ∧ ∃ pre, Sb R w w7 p X hi q0 q1 ab nb ob cb lb now n d c.1 pre c.2 ((((wz.setCell ⟨ob, i, none⟩ (.bool true)).setCell ⟨lb, 0, none⟩ (nu (i : Int))).setCell ⟨lb, 1, none⟩ (nu ((i : Int) + 1))).setCell ⟨cb, 0, none⟩ (nun c9)) ∧ Gone n d now pre c.2 ∧ c.2.length = j) := fun wz hk => by
          obtain ⟨g1, g2, g3⟩ := HST.out wz hk
          have g4 := g1.2.2.1
          rw [hcnt, hla] at g4
          obtain ⟨_, r1, r2, r3⟩ := round_facts g1.2.1 g4 g2 g1.2.2.2.2 (fun e => hxq xb (.inr e) rfl) hi32 hc9
          rw [HHI.out]
          refine ⟨g3.trans (Rf.Lets.keep r3 (fun k hq => ?_)), ((F1, L1) : Kn), L1.length, by omega, pre ++ [ent d i], ⟨g1.1.keep C r3 (fun k hq => ?_), r2, ?_, g1.2.2.2⟩, hG2, rfl⟩
          · obtain ⟨h1, h2, h3, h4⟩ := g1.2.2.2.1 k (.inr hq)
            exact ⟨h2, by omega⟩
          · obtain ⟨h1, h2, h3, h4⟩ := g1.2.2.2.1 k (.inr hq)
            exact ⟨h1, h2, h4⟩
          · rw [outF_snoc, lastE_snoc, List.length_append, List.length_singleton, hcnt, hc9]
            exact r1
        have hIw := HIW.out
        have hIw2 := HIW2.out
        have hIc := HIC.out
        have hIc2 := HIC2.out
        have hI0 : ¬ ((i : Int) < 0) := Int.not_lt.2 (Int.natCast_nonneg i)
        clear hlx hhx hn1 hS hG ht hc hof hG2 hpl hlst hcnt hc9 hla hxq HST hil hcl HIW HIW2 HIC HIC2
        clear HM HN HD HDR HCL HI HW0 HNEW hmin HFR HSB hcI hc2 hc1 hnow HQ0 HQ1 HW1 HB1 HF0 HF1 HS1 HB2 HAB HNB
        gi_wp2_with fail
        refine Rn.region_calls (S := fun w' => w'.cell? ⟨xb, 0, none⟩ = some (nu (i : Int)) ∧ w'.cell? ⟨xb, 1, none⟩ = some (nu ((i : Int) + 1)) ∧ w'.cell? ⟨nb, 0, none⟩ = some (nun n) ∧ w'.cell? ⟨ob, i, none⟩ = some (.bool false) ∧ w'.cell? ⟨ab, i, none⟩ = some (nu (d i)) ∧ w'.cell? ⟨q0, 0, none⟩ = some (nu now)) (fun _ _ h => h) (by kernel_rfl) (by kernel_rfl) HS17.out (fun hHeld => ?_)
        refine wpAnyH_take (i := 0) (v := ?_) rfl (by kernel_rfl) (by kernel_rfl) (by kernel_rfl) (fun _ _ _ h => h) (Or.inl ⟨by rfl, ?_⟩) hHeld ?_
        rotate_left
        · (intro w' hS'; go_simp <;> with_reducible rfl)
        simp only [Act.put, List.getElem_toArray, List.getElem_cons_succ, List.getElem_cons_zero, List.setIfInBounds_toArray, List.set]
        refine wpAnyH_take (i := 1) (v := ?_) rfl (by kernel_rfl) (by kernel_rfl) (by kernel_rfl) (fun _ _ _ h => h) (Or.inl ⟨by rfl, ?_⟩) hHeld ?_
        rotate_left
        · (intro w' hS'; have hq0 := hS'.1; have hq1 := hS'.2.1; have hq2 := hS'.2.2.1; have hq3 := hS'.2.2.2.1; have hq4 := hS'.2.2.2.2.1; have hq5 := hS'.2.2.2.2.2; go_simp <;> with_reducible rfl)
        simp only [Act.put, List.getElem_toArray, List.getElem_cons_succ, List.getElem_cons_zero, List.setIfInBounds_toArray, List.set]
        refine wpAnyH_take (i := 2) (v := ?_) rfl (by kernel_rfl) (by kernel_rfl) (by kernel_rfl) (fun _ _ _ h => h) (Or.inl ⟨by rfl, ?_⟩) hHeld ?_
        rotate_left
        · (intro w' hS'; go_simp <;> with_reducible rfl)
        simp only [Act.put, List.getElem_toArray, List.getElem_cons_succ, List.getElem_cons_zero, List.setIfInBounds_toArray, List.set]
        refine wpAnyH_take (i := 3) (v := ?_) rfl (by kernel_rfl) (by kernel_rfl) (by kernel_rfl) (fun _ _ _ h => h) (Or.inl ⟨by rfl, ?_⟩) hHeld ?_
        rotate_left
        · (intro w' hS'; go_simp <;> with_reducible rfl)
        simp only [Act.put, List.getElem_toArray, List.getElem_cons_succ, List.getElem_cons_zero, List.setIfInBounds_toArray, List.set]
        refine wpAnyH_take (i := 4) (v := ?_) rfl (by kernel_rfl) (by kernel_rfl) (by kernel_rfl) (fun _ _ _ h => h) (Or.inl ⟨by rfl, ?_⟩) hHeld ?_
        rotate_left
        · (intro w' hS'; go_simp <;> with_reducible rfl)
        simp only [Act.put, List.getElem_toArray, List.getElem_cons_succ, List.getElem_cons_zero, List.setIfInBounds_toArray, List.set]
        refine wpAnyH_take (i := 5) (v := ?_) rfl (by kernel_rfl) (by kernel_rfl) (by kernel_rfl) (fun _ _ _ h => h) (Or.inl ⟨by rfl, ?_⟩) hHeld ?_
        rotate_left
        · (intro w' hS'; have hq0 := hS'.1; have hq1 := hS'.2.1; have hq2 := hS'.2.2.1; have hq3 := hS'.2.2.2.1; have hq4 := hS'.2.2.2.2.1; have hq5 := hS'.2.2.2.2.2; go_simp <;> with_reducible rfl)
        simp only [Act.put, List.getElem_toArray, List.getElem_cons_succ, List.getElem_cons_zero, List.setIfInBounds_toArray, List.set]
        refine wpAnyH_take (i := 6) (v := ?_) rfl (by kernel_rfl) (by kernel_rfl) (by kernel_rfl) (fun _ _ _ h => h) (Or.inl ⟨by rfl, ?_⟩) hHeld ?_
        rotate_left
        · (intro w' hS'; have hq0 := hS'.1; have hq1 := hS'.2.1; have hq2 := hS'.2.2.1; have hq3 := hS'.2.2.2.1; have hq4 := hS'.2.2.2.2.1; have hq5 := hS'.2.2.2.2.2; go_simp <;> with_reducible rfl)
        simp only [Act.put, List.getElem_toArray, List.getElem_cons_succ, List.getElem_cons_zero, List.setIfInBounds_toArray, List.set]
        refine wpAnyH_take (i := 7) (v := ?_) rfl (by kernel_rfl) (by kernel_rfl) (by kernel_rfl) (fun _ _ _ h => h) (Or.inl ⟨by rfl, ?_⟩) hHeld ?_
        rotate_left
        · (intro w' hS'; go_simp <;> with_reducible rfl)
        simp only [Act.put, List.getElem_toArray, List.getElem_cons_succ, List.getElem_cons_zero, List.setIfInBounds_toArray, List.set]
        refine wpAnyH_take (i := 8) (v := ?_) rfl (by kernel_rfl) (by kernel_rfl) (by kernel_rfl) (fun _ _ _ h => h) (Or.inl ⟨by rfl, ?_⟩) hHeld ?_
        rotate_left
        · (intro w' hS'; go_simp <;> with_reducible rfl)
        simp only [Act.put, List.getElem_toArray, List.getElem_cons_succ, List.getElem_cons_zero, List.setIfInBounds_toArray, List.set]
        refine wpAnyH_take (i := 9) (v := ?_) rfl (by kernel_rfl) (by kernel_rfl) (by kernel_rfl) (fun _ _ _ h => h) (Or.inl ⟨by rfl, ?_⟩) hHeld ?_
        rotate_left
        · (intro w' hS'; go_simp <;> with_reducible rfl)
        simp only [Act.put, List.getElem_toArray, List.getElem_cons_succ, List.getElem_cons_zero, List.setIfInBounds_toArray, List.set]
        refine wpAnyH_take (i := 10) (v := ?_) rfl (by kernel_rfl) (by kernel_rfl) (by kernel_rfl) (fun _ _ _ h => h) (Or.inl ⟨by rfl, ?_⟩) hHeld ?_
        rotate_left
        · (intro w' hS'; go_simp <;> with_reducible rfl)
        simp only [Act.put, List.getElem_toArray, List.getElem_cons_succ, List.getElem_cons_zero, List.setIfInBounds_toArray, List.set]
        refine wpAnyH_take (i := 11) (v := ?_) rfl (by kernel_rfl) (by kernel_rfl) (by kernel_rfl) (fun _ _ _ h => h) (Or.inl ⟨by rfl, ?_⟩) hHeld ?_
        rotate_left
        · (intro w' hS'; have hq0 := hS'.1; have hq1 := hS'.2.1; have hq2 := hS'.2.2.1; have hq3 := hS'.2.2.2.1; have hq4 := hS'.2.2.2.2.1; have hq5 := hS'.2.2.2.2.2; go_simp <;> with_reducible rfl)
        simp only [Act.put, List.getElem_toArray, List.getElem_cons_succ, List.getElem_cons_zero, List.setIfInBounds_toArray, List.set]
        refine wpAnyH_take (i := 12) (v := ?_) rfl (by kernel_rfl) (by kernel_rfl) (by kernel_rfl) (fun _ _ _ h => h) (Or.inl ⟨by rfl, ?_⟩) hHeld ?_
        rotate_left
        · (intro w' hS'; go_simp <;> with_reducible rfl)
        simp only [Act.put, List.getElem_toArray, List.getElem_cons_succ, List.getElem_cons_zero, List.setIfInBounds_toArray, List.set]
        refine wpAnyH_take (i := 13) (v := ?_) rfl (by kernel_rfl) (by kernel_rfl) (by kernel_rfl) (fun _ _ _ h => h) (Or.inl ⟨by rfl, ?_⟩) hHeld ?_
        rotate_left
        · (intro w' hS'; have hq0 := hS'.1; have hq1 := hS'.2.1; have hq2 := hS'.2.2.1; have hq3 := hS'.2.2.2.1; have hq4 := hS'.2.2.2.2.1; have hq5 := hS'.2.2.2.2.2; go_simp <;> with_reducible rfl)
        simp only [Act.put, List.getElem_toArray, List.getElem_cons_succ, List.getElem_cons_zero, List.setIfInBounds_toArray, List.set]
        refine wpAnyH_take (i := 14) (v := ?_) rfl (by kernel_rfl) (by kernel_rfl) (by kernel_rfl) (fun _ _ _ h => h) (Or.inl ⟨by rfl, ?_⟩) hHeld ?_
        rotate_left
        · (intro w' hS'; go_simp <;> with_reducible rfl)
        simp only [Act.put, List.getElem_toArray, List.getElem_cons_succ, List.getElem_cons_zero, List.setIfInBounds_toArray, List.set]
        refine wpAnyH_take (i := 15) (v := ?_) rfl (by kernel_rfl) (by kernel_rfl) (by kernel_rfl) (fun _ _ _ h => h) (Or.inl ⟨by rfl, ?_⟩) hHeld ?_
        rotate_left
        · (intro w' hS'; go_simp <;> with_reducible rfl)
        simp only [Act.put, List.getElem_toArray, List.getElem_cons_succ, List.getElem_cons_zero, List.setIfInBounds_toArray, List.set]
        refine wpAnyH_take (i := 16) (v := ?_) rfl (by kernel_rfl) (by kernel_rfl) (by kernel_rfl) (fun _ _ _ h => h) (Or.inl ⟨by rfl, ?_⟩) hHeld ?_
        rotate_left
        · (intro w' hS'; go_simp <;> with_reducible rfl)
        simp only [Act.put, List.getElem_toArray, List.getElem_cons_succ, List.getElem_cons_zero, List.setIfInBounds_toArray, List.set]
        refine wpAnyH_take (i := 17) (v := ?_) rfl (by kernel_rfl) (by kernel_rfl) (by kernel_rfl) (fun _ _ _ h => h) (Or.inl ⟨by rfl, ?_⟩) hHeld ?_
        rotate_left
        · (intro w' hS'; have hq0 := hS'.1; have hq1 := hS'.2.1; have hq2 := hS'.2.2.1; have hq3 := hS'.2.2.2.1; have hq4 := hS'.2.2.2.2.1; have hq5 := hS'.2.2.2.2.2; go_simp <;> with_reducible rfl)
        simp only [Act.put, List.getElem_toArray, List.getElem_cons_succ, List.getElem_cons_zero, List.setIfInBounds_toArray, List.set]
        refine wpAnyH_take (i := 18) (v := ?_) rfl (by kernel_rfl) (by kernel_rfl) (by kernel_rfl) (fun _ _ _ h => h) (Or.inl ⟨by rfl, ?_⟩) hHeld ?_
        rotate_left
        · (intro w' hS'; go_simp <;> with_reducible rfl)
        simp only [Act.put, List.getElem_toArray, List.getElem_cons_succ, List.getElem_cons_zero, List.setIfInBounds_toArray, List.set]
        refine wpAnyH_take (i := 19) (v := ?_) rfl (by kernel_rfl) (by kernel_rfl) (by kernel_rfl) (fun _ _ _ h => h) (Or.inl ⟨by rfl, ?_⟩) hHeld ?_
        rotate_left
        · (intro w' hS'; have hq0 := hS'.1; have hq1 := hS'.2.1; have hq2 := hS'.2.2.1; have hq3 := hS'.2.2.2.1; have hq4 := hS'.2.2.2.2.1; have hq5 := hS'.2.2.2.2.2; go_simp <;> with_reducible rfl)
        simp only [Act.put, List.getElem_toArray, List.getElem_cons_succ, List.getElem_cons_zero, List.setIfInBounds_toArray, List.set]
        refine wpAnyH_take (i := 20) (v := ?_) rfl (by kernel_rfl) (by kernel_rfl) (by kernel_rfl) (fun _ _ _ h => h) (Or.inl ⟨by rfl, ?_⟩) hHeld ?_
        rotate_left
        · (intro w' hS'; go_simp <;> with_reducible rfl)
        simp only [Act.put, List.getElem_toArray, List.getElem_cons_succ, List.getElem_cons_zero, List.setIfInBounds_toArray, List.set]
        refine wpAnyH_take (i := 21) (v := ?_) rfl (by kernel_rfl) (by kernel_rfl) (by kernel_rfl) (fun _ _ _ h => h) (Or.inl ⟨by rfl, ?_⟩) hHeld ?_
        rotate_left
        · (intro w' hS'; go_simp <;> with_reducible rfl)
        simp only [Act.put, List.getElem_toArray, List.getElem_cons_succ, List.getElem_cons_zero, List.setIfInBounds_toArray, List.set]
        refine wpAnyH_take (i := 22) (v := ?_) rfl (by kernel_rfl) (by kernel_rfl) (by kernel_rfl) (fun _ _ _ h => h) (Or.inl ⟨by rfl, ?_⟩) hHeld ?_
        rotate_left
        · (intro w' hS'; go_simp <;> with_reducible rfl)
        simp only [Act.put, List.getElem_toArray, List.getElem_cons_succ, List.getElem_cons_zero, List.setIfInBounds_toArray, List.set]
        refine wpAnyH_take (i := 23) (v := ?_) rfl (by kernel_rfl) (by kernel_rfl) (by kernel_rfl) (fun _ _ _ h => h) (Or.inl ⟨by rfl, ?_⟩) hHeld ?_
        rotate_left
        · (intro w' hS'; go_simp <;> with_reducible rfl)
        simp only [Act.put, List.getElem_toArray, List.getElem_cons_succ, List.getElem_cons_zero, List.setIfInBounds_toArray, List.set]
        refine wpAnyH_take (i := 24) (v := ?_) rfl (by kernel_rfl) (by kernel_rfl) (by kernel_rfl) (fun _ _ _ h => h) (Or.inl ⟨by rfl, ?_⟩) hHeld ?_
        rotate_left
        · (intro w' hS'; go_simp <;> with_reducible rfl)
        simp only [Act.put, List.getElem_toArray, List.getElem_cons_succ, List.getElem_cons_zero, List.setIfInBounds_toArray, List.set]
        refine wpAnyH_take (i := 25) (v := ?_) rfl (by kernel_rfl) (by kernel_rfl) (by kernel_rfl) (fun _ _ _ h => h) (Or.inl ⟨by rfl, ?_⟩) hHeld ?_
        rotate_left
        · (intro w' hS'; have hq0 := hS'.1; have hq1 := hS'.2.1; have hq2 := hS'.2.2.1; have hq3 := hS'.2.2.2.1; have hq4 := hS'.2.2.2.2.1; have hq5 := hS'.2.2.2.2.2; go_simp <;> with_reducible rfl)
        simp only [Act.put, List.getElem_toArray, List.getElem_cons_succ, List.getElem_cons_zero, List.setIfInBounds_toArray, List.set]
        refine wpAnyH_take (i := 26) (v := ?_) rfl (by kernel_rfl) (by kernel_rfl) (by kernel_rfl) (fun _ _ _ h => h) (Or.inl ⟨by rfl, ?_⟩) hHeld ?_
        rotate_left
        · (intro w' hS'; go_simp <;> with_reducible rfl)
        simp only [Act.put, List.getElem_toArray, List.getElem_cons_succ, List.getElem_cons_zero, List.setIfInBounds_toArray, List.set]
        refine wpAnyH_take (i := 27) (v := ?_) rfl (by kernel_rfl) (by kernel_rfl) (by kernel_rfl) (fun _ _ _ h => h) (Or.inl ⟨by rfl, ?_⟩) hHeld ?_
        rotate_left
        · (intro w' hS'; have hq0 := hS'.1; have hq1 := hS'.2.1; have hq2 := hS'.2.2.1; have hq3 := hS'.2.2.2.1; have hq4 := hS'.2.2.2.2.1; have hq5 := hS'.2.2.2.2.2; go_simp <;> with_reducible rfl)
        simp only [Act.put, List.getElem_toArray, List.getElem_cons_succ, List.getElem_cons_zero, List.setIfInBounds_toArray, List.set]
        refine wpAnyH_take (i := 28) (v := ?_) rfl (by kernel_rfl) (by kernel_rfl) (by kernel_rfl) (fun _ _ _ h => h) (Or.inl ⟨by rfl, ?_⟩) hHeld ?_
        rotate_left
        · (intro w' hS'; have hq0 := hS'.1; have hq1 := hS'.2.1; have hq2 := hS'.2.2.1; have hq3 := hS'.2.2.2.1; have hq4 := hS'.2.2.2.2.1; have hq5 := hS'.2.2.2.2.2; go_simp <;> with_reducible rfl)
        simp only [Act.put, List.getElem_toArray, List.getElem_cons_succ, List.getElem_cons_zero, List.setIfInBounds_toArray, List.set]
        refine wpAnyH_take (i := 29) (v := ?_) rfl (by kernel_rfl) (by kernel_rfl) (by kernel_rfl) (fun _ _ _ h => h) (Or.inl ⟨by rfl, ?_⟩) hHeld ?_
        rotate_left
        · (intro w' hS'; go_simp <;> with_reducible rfl)
        simp only [Act.put, List.getElem_toArray, List.getElem_cons_succ, List.getElem_cons_zero, List.setIfInBounds_toArray, List.set]
        refine wpAnyH_take (i := 30) (v := ?_) rfl (by kernel_rfl) (by kernel_rfl) (by kernel_rfl) (fun _ _ _ h => h) (Or.inl ⟨by rfl, ?_⟩) hHeld ?_
        rotate_left
        · (intro w' hS'; go_simp <;> with_reducible rfl)
        simp only [Act.put, List.getElem_toArray, List.getElem_cons_succ, List.getElem_cons_zero, List.setIfInBounds_toArray, List.set]
        refine wpAnyH_done (by kernel_rfl) ?_ _
        have kw := (Keep.refl (fun _ => False) W5).drew
        have HKW : Hid (Keep (fun _ => False) W5 W5.drew.drew) := kw.drew
        have HL2 := HL.out W5.drew.drew HKW.out
        clear kw HS17
        gi_wp2_with fail
        obtain ⟨ls, lx⟩ := la
        dsimp only at HLA HL2
        rcases HLA.out with rfl | ⟨k, hkn, rfl, hlt | ⟨heq, hki⟩⟩
        · have hS19 : W5.drew.drew.cell? ⟨xb, 0, none⟩ = some (nu (i : Int)) ∧ W5.drew.drew.cell? ⟨lb, 0, none⟩ = some (nu (-1)) ∧ W5.drew.drew.cell? ⟨ab, i, none⟩ = some (nu (d i)) := ⟨HL2.1, HL2.2.1, HL2.2.2.1⟩
          clear HL2 HLA HL
          refine Rn.region_calls (S := fun w' => w'.cell? ⟨xb, 0, none⟩ = some (nu (i : Int)) ∧ w'.cell? ⟨lb, 0, none⟩ = some (nu (-1)) ∧ w'.cell? ⟨ab, i, none⟩ = some (nu (d i))) (fun _ _ h => h) (by kernel_rfl) (by kernel_rfl) hS19 (fun hHeld => ?_)
          refine wpAnyH_take (i := 0) (v := ?_) rfl (by kernel_rfl) (by kernel_rfl) (by kernel_rfl) (fun _ _ _ h => h) (Or.inl ⟨by rfl, ?_⟩) hHeld ?_
          rotate_left
          · (intro w' hS'; go_simp <;> with_reducible rfl)
          simp only [Act.put, List.getElem_toArray, List.getElem_cons_succ, List.getElem_cons_zero, List.setIfInBounds_toArray, List.set]
          refine wpAnyH_take (i := 1) (v := ?_) rfl (by kernel_rfl) (by kernel_rfl) (by kernel_rfl) (fun _ _ _ h => h) (Or.inl ⟨by rfl, ?_⟩) hHeld ?_
          rotate_left
          · (intro w' hS'; have hq0 := hS'.1; have hq1 := hS'.2.1; have hq2 := hS'.2.2; go_simp <;> with_reducible rfl)
          simp only [Act.put, List.getElem_toArray, List.getElem_cons_succ, List.getElem_cons_zero, List.setIfInBounds_toArray, List.set]
          refine wpAnyH_take (i := 2) (v := ?_) rfl (by kernel_rfl) (by kernel_rfl) (by kernel_rfl) (fun _ _ _ h => h) (Or.inl ⟨by rfl, ?_⟩) hHeld ?_
          rotate_left
          · (intro w' hS'; go_simp <;> with_reducible rfl)
          simp only [Act.put, List.getElem_toArray, List.getElem_cons_succ, List.getElem_cons_zero, List.setIfInBounds_toArray, List.set]
          refine wpAnyH_take (i := 3) (v := ?_) rfl (by kernel_rfl) (by kernel_rfl) (by kernel_rfl) (fun _ _ _ h => h) (Or.inl ⟨by rfl, ?_⟩) hHeld ?_
          rotate_left
          · (intro w' hS'; go_simp <;> with_reducible rfl)
          simp only [Act.put, List.getElem_toArray, List.getElem_cons_succ, List.getElem_cons_zero, List.setIfInBounds_toArray, List.set]
          refine wpAnyH_take (i := 4) (v := undef) rfl (by kernel_rfl) (by kernel_rfl) (by kernel_rfl) (fun _ _ _ h => h) (Or.inr ⟨by rfl, rfl⟩) hHeld ?_
          simp only [Act.put, List.getElem_toArray, List.getElem_cons_succ, List.getElem_cons_zero, List.setIfInBounds_toArray, List.set]
          refine wpAnyH_take (i := 5) (v := undef) rfl (by kernel_rfl) (by kernel_rfl) (by kernel_rfl) (fun _ _ _ h => h) (Or.inr ⟨by rfl, rfl⟩) hHeld ?_
          simp only [Act.put, List.getElem_toArray, List.getElem_cons_succ, List.getElem_cons_zero, List.setIfInBounds_toArray, List.set]
          refine wpAnyH_take (i := 6) (v := undef) rfl (by kernel_rfl) (by kernel_rfl) (by kernel_rfl) (fun _ _ _ h => h) (Or.inr ⟨by rfl, rfl⟩) hHeld ?_
          simp only [Act.put, List.getElem_toArray, List.getElem_cons_succ, List.getElem_cons_zero, List.setIfInBounds_toArray, List.set]
          refine wpAnyH_take (i := 7) (v := undef) rfl (by kernel_rfl) (by kernel_rfl) (by kernel_rfl) (fun _ _ _ h => h) (Or.inr ⟨by rfl, rfl⟩) hHeld ?_
          simp only [Act.put, List.getElem_toArray, List.getElem_cons_succ, List.getElem_cons_zero, List.setIfInBounds_toArray, List.set]
          refine wpAnyH_take (i := 8) (v := undef) rfl (by kernel_rfl) (by kernel_rfl) (by kernel_rfl) (fun _ _ _ h => h) (Or.inr ⟨by rfl, rfl⟩) hHeld ?_
          simp only [Act.put, List.getElem_toArray, List.getElem_cons_succ, List.getElem_cons_zero, List.setIfInBounds_toArray, List.set]
          refine wpAnyH_take (i := 9) (v := undef) rfl (by kernel_rfl) (by kernel_rfl) (by kernel_rfl) (fun _ _ _ h => h) (Or.inr ⟨by rfl, rfl⟩) hHeld ?_
          simp only [Act.put, List.getElem_toArray, List.getElem_cons_succ, List.getElem_cons_zero, List.setIfInBounds_toArray, List.set]
          refine wpAnyH_take (i := 10) (v := undef) rfl (by kernel_rfl) (by kernel_rfl) (by kernel_rfl) (fun _ _ _ h => h) (Or.inr ⟨by rfl, rfl⟩) hHeld ?_
          simp only [Act.put, List.getElem_toArray, List.getElem_cons_succ, List.getElem_cons_zero, List.setIfInBounds_toArray, List.set]
          refine wpAnyH_take (i := 11) (v := undef) rfl (by kernel_rfl) (by kernel_rfl) (by kernel_rfl) (fun _ _ _ h => h) (Or.inr ⟨by rfl, rfl⟩) hHeld ?_
          simp only [Act.put, List.getElem_toArray, List.getElem_cons_succ, List.getElem_cons_zero, List.setIfInBounds_toArray, List.set]
          refine wpAnyH_take (i := 12) (v := undef) rfl (by kernel_rfl) (by kernel_rfl) (by kernel_rfl) (fun _ _ _ h => h) (Or.inr ⟨by rfl, rfl⟩) hHeld ?_
          simp only [Act.put, List.getElem_toArray, List.getElem_cons_succ, List.getElem_cons_zero, List.setIfInBounds_toArray, List.set]
          refine wpAnyH_take (i := 13) (v := undef) rfl (by kernel_rfl) (by kernel_rfl) (by kernel_rfl) (fun _ _ _ h => h) (Or.inr ⟨by rfl, rfl⟩) hHeld ?_
          simp only [Act.put, List.getElem_toArray, List.getElem_cons_succ, List.getElem_cons_zero, List.setIfInBounds_toArray, List.set]
          refine wpAnyH_take (i := 14) (v := undef) rfl (by kernel_rfl) (by kernel_rfl) (by kernel_rfl) (fun _ _ _ h => h) (Or.inr ⟨by rfl, rfl⟩) hHeld ?_
          simp only [Act.put, List.getElem_toArray, List.getElem_cons_succ, List.getElem_cons_zero, List.setIfInBounds_toArray, List.set]
          refine wpAnyH_take (i := 15) (v := undef) rfl (by kernel_rfl) (by kernel_rfl) (by kernel_rfl) (fun _ _ _ h => h) (Or.inr ⟨by rfl, rfl⟩) hHeld ?_
          simp only [Act.put, List.getElem_toArray, List.getElem_cons_succ, List.getElem_cons_zero, List.setIfInBounds_toArray, List.set]
          refine wpAnyH_take (i := 16) (v := undef) rfl (by kernel_rfl) (by kernel_rfl) (by kernel_rfl) (fun _ _ _ h => h) (Or.inr ⟨by rfl, rfl⟩) hHeld ?_
          simp only [Act.put, List.getElem_toArray, List.getElem_cons_succ, List.getElem_cons_zero, List.setIfInBounds_toArray, List.set]
          refine wpAnyH_take (i := 17) (v := undef) rfl (by kernel_rfl) (by kernel_rfl) (by kernel_rfl) (fun _ _ _ h => h) (Or.inr ⟨by rfl, rfl⟩) hHeld ?_
          simp only [Act.put, List.getElem_toArray, List.getElem_cons_succ, List.getElem_cons_zero, List.setIfInBounds_toArray, List.set]
          refine wpAnyH_take (i := 18) (v := undef) rfl (by kernel_rfl) (by kernel_rfl) (by kernel_rfl) (fun _ _ _ h => h) (Or.inr ⟨by rfl, rfl⟩) hHeld ?_
          simp only [Act.put, List.getElem_toArray, List.getElem_cons_succ, List.getElem_cons_zero, List.setIfInBounds_toArray, List.set]
          refine wpAnyH_take (i := 19) (v := undef) rfl (by kernel_rfl) (by kernel_rfl) (by kernel_rfl) (fun _ _ _ h => h) (Or.inr ⟨by rfl, rfl⟩) hHeld ?_
          simp only [Act.put, List.getElem_toArray, List.getElem_cons_succ, List.getElem_cons_zero, List.setIfInBounds_toArray, List.set]
          refine wpAnyH_take (i := 20) (v := undef) rfl (by kernel_rfl) (by kernel_rfl) (by kernel_rfl) (fun _ _ _ h => h) (Or.inr ⟨by rfl, rfl⟩) hHeld ?_
          simp only [Act.put, List.getElem_toArray, List.getElem_cons_succ, List.getElem_cons_zero, List.setIfInBounds_toArray, List.set]
          refine wpAnyH_take (i := 21) (v := undef) rfl (by kernel_rfl) (by kernel_rfl) (by kernel_rfl) (fun _ _ _ h => h) (Or.inr ⟨by rfl, rfl⟩) hHeld ?_
          simp only [Act.put, List.getElem_toArray, List.getElem_cons_succ, List.getElem_cons_zero, List.setIfInBounds_toArray, List.set]
          refine wpAnyH_take (i := 22) (v := undef) rfl (by kernel_rfl) (by kernel_rfl) (by kernel_rfl) (fun _ _ _ h => h) (Or.inr ⟨by rfl, rfl⟩) hHeld ?_
          simp only [Act.put, List.getElem_toArray, List.getElem_cons_succ, List.getElem_cons_zero, List.setIfInBounds_toArray, List.set]
          refine wpAnyH_take (i := 23) (v := undef) rfl (by kernel_rfl) (by kernel_rfl) (by kernel_rfl) (fun _ _ _ h => h) (Or.inr ⟨by rfl, rfl⟩) hHeld ?_
          simp only [Act.put, List.getElem_toArray, List.getElem_cons_succ, List.getElem_cons_zero, List.setIfInBounds_toArray, List.set]
          refine wpAnyH_take (i := 24) (v := undef) rfl (by kernel_rfl) (by kernel_rfl) (by kernel_rfl) (fun _ _ _ h => h) (Or.inr ⟨by rfl, rfl⟩) hHeld ?_
          simp only [Act.put, List.getElem_toArray, List.getElem_cons_succ, List.getElem_cons_zero, List.setIfInBounds_toArray, List.set]
          refine wpAnyH_take (i := 25) (v := undef) rfl (by kernel_rfl) (by kernel_rfl) (by kernel_rfl) (fun _ _ _ h => h) (Or.inr ⟨by rfl, rfl⟩) hHeld ?_
          simp only [Act.put, List.getElem_toArray, List.getElem_cons_succ, List.getElem_cons_zero, List.setIfInBounds_toArray, List.set]
          refine wpAnyH_take (i := 26) (v := undef) rfl (by kernel_rfl) (by kernel_rfl) (by kernel_rfl) (fun _ _ _ h => h) (Or.inr ⟨by rfl, rfl⟩) hHeld ?_
          simp only [Act.put, List.getElem_toArray, List.getElem_cons_succ, List.getElem_cons_zero, List.setIfInBounds_toArray, List.set]
          refine wpAnyH_take (i := 27) (v := undef) rfl (by kernel_rfl) (by kernel_rfl) (by kernel_rfl) (fun _ _ _ h => h) (Or.inr ⟨by rfl, rfl⟩) hHeld ?_
          simp only [Act.put, List.getElem_toArray, List.getElem_cons_succ, List.getElem_cons_zero, List.setIfInBounds_toArray, List.set]
          refine wpAnyH_take (i := 28) (v := undef) rfl (by kernel_rfl) (by kernel_rfl) (by kernel_rfl) (fun _ _ _ h => h) (Or.inr ⟨by rfl, rfl⟩) hHeld ?_
          simp only [Act.put, List.getElem_toArray, List.getElem_cons_succ, List.getElem_cons_zero, List.setIfInBounds_toArray, List.set]
          refine wpAnyH_take (i := 29) (v := undef) rfl (by kernel_rfl) (by kernel_rfl) (by kernel_rfl) (fun _ _ _ h => h) (Or.inr ⟨by rfl, rfl⟩) hHeld ?_
          simp only [Act.put, List.getElem_toArray, List.getElem_cons_succ, List.getElem_cons_zero, List.setIfInBounds_toArray, List.set]
          refine wpAnyH_take (i := 30) (v := undef) rfl (by kernel_rfl) (by kernel_rfl) (by kernel_rfl) (fun _ _ _ h => h) (Or.inr ⟨by rfl, rfl⟩) hHeld ?_
          simp only [Act.put, List.getElem_toArray, List.getElem_cons_succ, List.getElem_cons_zero, List.setIfInBounds_toArray, List.set]
          refine wpAnyH_take (i := 31) (v := ?_) rfl (by kernel_rfl) (by kernel_rfl) (by kernel_rfl) (fun _ _ _ h => h) (Or.inl ⟨by rfl, ?_⟩) hHeld ?_
          rotate_left
          · (intro w' hS'; go_simp <;> with_reducible rfl)
          simp only [Act.put, List.getElem_toArray, List.getElem_cons_succ, List.getElem_cons_zero, List.setIfInBounds_toArray, List.set]
          refine wpAnyH_done (by kernel_rfl) ?_ _
          have hx0 := hS19.1
          clear hS19
          have hrf := HRF.out W5.drew.drew HKW.out
          have HG := Hid.mk' (HEND.out W5.drew.drew HKW.out)
          clear HRF HEND HKW
          generalize W5.drew.drew = wz at hx0 hrf HG ⊢
          obtain ⟨⟨ov, p0⟩, p1, p2, p3, p4, p5, p6, p7, p8, p9, p10, p11⟩ := hrf
          gi_wp2
          exact HG.out
        · have hS19 : W5.drew.drew.cell? ⟨xb, 0, none⟩ = some (nu (i : Int)) ∧ W5.drew.drew.cell? ⟨lb, 0, none⟩ = some (nu (k : Int)) ∧ W5.drew.drew.cell? ⟨ab, i, none⟩ = some (nu (d i)) ∧ W5.drew.drew.cell? ⟨ab, k, none⟩ = some (nu (d k)) := ⟨HL2.1, HL2.2.1, HL2.2.2.1, HL2.2.2.2 k hkn⟩
          have hk0 : (0 : Int) ≤ (k : Int) := by omega
          have hk32 : (k : Int) < 32 := by omega
          have hg1 : ¬ d i < d k := by omega
          have hg2 : (d k == d i) = false := by simp only [beq_eq_false_iff_ne]; omega
          clear HL2 HLA HL hlt
          refine Rn.region_calls (S := fun w' => w'.cell? ⟨xb, 0, none⟩ = some (nu (i : Int)) ∧ w'.cell? ⟨lb, 0, none⟩ = some (nu (k : Int)) ∧ w'.cell? ⟨ab, i, none⟩ = some (nu (d i)) ∧ w'.cell? ⟨ab, k, none⟩ = some (nu (d k))) (fun _ _ h => h) (by kernel_rfl) (by kernel_rfl) hS19 (fun hHeld => ?_)
          refine wpAnyH_take (i := 0) (v := ?_) rfl (by kernel_rfl) (by kernel_rfl) (by kernel_rfl) (fun _ _ _ h => h) (Or.inl ⟨by rfl, ?_⟩) hHeld ?_
          rotate_left
          · (intro w' hS'; go_simp <;> with_reducible rfl)
          simp only [Act.put, List.getElem_toArray, List.getElem_cons_succ, List.getElem_cons_zero, List.setIfInBounds_toArray, List.set]
          refine wpAnyH_take (i := 1) (v := ?_) rfl (by kernel_rfl) (by kernel_rfl) (by kernel_rfl) (fun _ _ _ h => h) (Or.inl ⟨by rfl, ?_⟩) hHeld ?_
          rotate_left
          · (intro w' hS'; have hq0 := hS'.1; have hq1 := hS'.2.1; have hq2 := hS'.2.2.1; have hq3 := hS'.2.2.2; go_simp <;> with_reducible rfl)
          simp only [Act.put, List.getElem_toArray, List.getElem_cons_succ, List.getElem_cons_zero, List.setIfInBounds_toArray, List.set]
          refine wpAnyH_take (i := 2) (v := ?_) rfl (by kernel_rfl) (by kernel_rfl) (by kernel_rfl) (fun _ _ _ h => h) (Or.inl ⟨by rfl, ?_⟩) hHeld ?_
          rotate_left
          · (intro w' hS'; go_simp <;> with_reducible rfl)
          simp only [Act.put, List.getElem_toArray, List.getElem_cons_succ, List.getElem_cons_zero, List.setIfInBounds_toArray, List.set]
          refine wpAnyH_take (i := 3) (v := ?_) rfl (by kernel_rfl) (by kernel_rfl) (by kernel_rfl) (fun _ _ _ h => h) (Or.inl ⟨by rfl, ?_⟩) hHeld ?_
          rotate_left
          · (intro w' hS'; go_simp <;> with_reducible rfl)
          simp only [Act.put, List.getElem_toArray, List.getElem_cons_succ, List.getElem_cons_zero, List.setIfInBounds_toArray, List.set]
          refine wpAnyH_take (i := 4) (v := ?_) rfl (by kernel_rfl) (by kernel_rfl) (by kernel_rfl) (fun _ _ _ h => h) (Or.inl ⟨by rfl, ?_⟩) hHeld ?_
          rotate_left
          · (intro w' hS'; go_simp <;> with_reducible rfl)
          simp only [Act.put, List.getElem_toArray, List.getElem_cons_succ, List.getElem_cons_zero, List.setIfInBounds_toArray, List.set]
          refine wpAnyH_take (i := 5) (v := ?_) rfl (by kernel_rfl) (by kernel_rfl) (by kernel_rfl) (fun _ _ _ h => h) (Or.inl ⟨by rfl, ?_⟩) hHeld ?_
          rotate_left
          · (intro w' hS'; have hq0 := hS'.1; have hq1 := hS'.2.1; have hq2 := hS'.2.2.1; have hq3 := hS'.2.2.2; go_simp <;> with_reducible rfl)
          simp only [Act.put, List.getElem_toArray, List.getElem_cons_succ, List.getElem_cons_zero, List.setIfInBounds_toArray, List.set]
          refine wpAnyH_take (i := 6) (v := ?_) rfl (by kernel_rfl) (by kernel_rfl) (by kernel_rfl) (fun _ _ _ h => h) (Or.inl ⟨by rfl, ?_⟩) hHeld ?_
          rotate_left
          · (intro w' hS'; go_simp <;> with_reducible rfl)
          simp only [Act.put, List.getElem_toArray, List.getElem_cons_succ, List.getElem_cons_zero, List.setIfInBounds_toArray, List.set]
          refine wpAnyH_take (i := 7) (v := ?_) rfl (by kernel_rfl) (by kernel_rfl) (by kernel_rfl) (fun _ _ _ h => h) (Or.inl ⟨by rfl, ?_⟩) hHeld ?_
          rotate_left
          · (intro w' hS'; have hq0 := hS'.1; have hq1 := hS'.2.1; have hq2 := hS'.2.2.1; have hq3 := hS'.2.2.2; go_simp <;> with_reducible rfl)
          simp only [Act.put, List.getElem_toArray, List.getElem_cons_succ, List.getElem_cons_zero, List.setIfInBounds_toArray, List.set]
          refine wpAnyH_take (i := 8) (v := ?_) rfl (by kernel_rfl) (by kernel_rfl) (by kernel_rfl) (fun _ _ _ h => h) (Or.inl ⟨by rfl, ?_⟩) hHeld ?_
          rotate_left
          · (intro w' hS'; go_simp <;> with_reducible rfl)
          simp only [Act.put, List.getElem_toArray, List.getElem_cons_succ, List.getElem_cons_zero, List.setIfInBounds_toArray, List.set]
          refine wpAnyH_take (i := 9) (v := ?_) rfl (by kernel_rfl) (by kernel_rfl) (by kernel_rfl) (fun _ _ _ h => h) (Or.inl ⟨by rfl, ?_⟩) hHeld ?_
          rotate_left
          · (intro w' hS'; have hq0 := hS'.1; have hq1 := hS'.2.1; have hq2 := hS'.2.2.1; have hq3 := hS'.2.2.2; go_simp <;> with_reducible rfl)
          simp only [Act.put, List.getElem_toArray, List.getElem_cons_succ, List.getElem_cons_zero, List.setIfInBounds_toArray, List.set]
          refine wpAnyH_take (i := 10) (v := ?_) rfl (by kernel_rfl) (by kernel_rfl) (by kernel_rfl) (fun _ _ _ h => h) (Or.inl ⟨by rfl, ?_⟩) hHeld ?_
          rotate_left
          · (intro w' hS'; go_simp <;> with_reducible rfl)
          simp only [Act.put, List.getElem_toArray, List.getElem_cons_succ, List.getElem_cons_zero, List.setIfInBounds_toArray, List.set]
          refine wpAnyH_take (i := 11) (v := ?_) rfl (by kernel_rfl) (by kernel_rfl) (by kernel_rfl) (fun _ _ _ h => h) (Or.inl ⟨by rfl, ?_⟩) hHeld ?_
          rotate_left
          · (intro w' hS'; have hq0 := hS'.1; have hq1 := hS'.2.1; have hq2 := hS'.2.2.1; have hq3 := hS'.2.2.2; go_simp <;> with_reducible rfl)
          simp only [Act.put, List.getElem_toArray, List.getElem_cons_succ, List.getElem_cons_zero, List.setIfInBounds_toArray, List.set]
          refine wpAnyH_take (i := 12) (v := ?_) rfl (by kernel_rfl) (by kernel_rfl) (by kernel_rfl) (fun _ _ _ h => h) (Or.inl ⟨by rfl, ?_⟩) hHeld ?_
          rotate_left
          · (intro w' hS'; go_simp <;> with_reducible rfl)
          simp only [Act.put, List.getElem_toArray, List.getElem_cons_succ, List.getElem_cons_zero, List.setIfInBounds_toArray, List.set]
          refine wpAnyH_take (i := 13) (v := ?_) rfl (by kernel_rfl) (by kernel_rfl) (by kernel_rfl) (fun _ _ _ h => h) (Or.inl ⟨by rfl, ?_⟩) hHeld ?_
          rotate_left
          · (intro w' hS'; go_simp <;> with_reducible rfl)
          simp only [Act.put, List.getElem_toArray, List.getElem_cons_succ, List.getElem_cons_zero, List.setIfInBounds_toArray, List.set]
          refine wpAnyH_take (i := 14) (v := ?_) rfl (by kernel_rfl) (by kernel_rfl) (by kernel_rfl) (fun _ _ _ h => h) (Or.inl ⟨by rfl, ?_⟩) hHeld ?_
          rotate_left
          · (intro w' hS'; go_simp <;> with_reducible rfl)
          simp only [Act.put, List.getElem_toArray, List.getElem_cons_succ, List.getElem_cons_zero, List.setIfInBounds_toArray, List.set]
          refine wpAnyH_take (i := 15) (v := ?_) rfl (by kernel_rfl) (by kernel_rfl) (by kernel_rfl) (fun _ _ _ h => h) (Or.inl ⟨by rfl, ?_⟩) hHeld ?_
          rotate_left
          · (intro w' hS'; have hq0 := hS'.1; have hq1 := hS'.2.1; have hq2 := hS'.2.2.1; have hq3 := hS'.2.2.2; go_simp <;> with_reducible rfl)
          simp only [Act.put, List.getElem_toArray, List.getElem_cons_succ, List.getElem_cons_zero, List.setIfInBounds_toArray, List.set]
          refine wpAnyH_take (i := 16) (v := ?_) rfl (by kernel_rfl) (by kernel_rfl) (by kernel_rfl) (fun _ _ _ h => h) (Or.inl ⟨by rfl, ?_⟩) hHeld ?_
          rotate_left
          · (intro w' hS'; go_simp <;> with_reducible rfl)
          simp only [Act.put, List.getElem_toArray, List.getElem_cons_succ, List.getElem_cons_zero, List.setIfInBounds_toArray, List.set]
          refine wpAnyH_take (i := 17) (v := ?_) rfl (by kernel_rfl) (by kernel_rfl) (by kernel_rfl) (fun _ _ _ h => h) (Or.inl ⟨by rfl, ?_⟩) hHeld ?_
          rotate_left
          · (intro w' hS'; have hq0 := hS'.1; have hq1 := hS'.2.1; have hq2 := hS'.2.2.1; have hq3 := hS'.2.2.2; go_simp <;> with_reducible rfl)
          simp only [Act.put, List.getElem_toArray, List.getElem_cons_succ, List.getElem_cons_zero, List.setIfInBounds_toArray, List.set]
          refine wpAnyH_take (i := 18) (v := ?_) rfl (by kernel_rfl) (by kernel_rfl) (by kernel_rfl) (fun _ _ _ h => h) (Or.inl ⟨by rfl, ?_⟩) hHeld ?_
          rotate_left
          · (intro w' hS'; go_simp <;> with_reducible rfl)
          simp only [Act.put, List.getElem_toArray, List.getElem_cons_succ, List.getElem_cons_zero, List.setIfInBounds_toArray, List.set]
          refine wpAnyH_take (i := 19) (v := ?_) rfl (by kernel_rfl) (by kernel_rfl) (by kernel_rfl) (fun _ _ _ h => h) (Or.inl ⟨by rfl, ?_⟩) hHeld ?_
          rotate_left
          · (intro w' hS'; have hq0 := hS'.1; have hq1 := hS'.2.1; have hq2 := hS'.2.2.1; have hq3 := hS'.2.2.2; go_simp <;> with_reducible rfl)
          simp only [Act.put, List.getElem_toArray, List.getElem_cons_succ, List.getElem_cons_zero, List.setIfInBounds_toArray, List.set]
          refine wpAnyH_take (i := 20) (v := ?_) rfl (by kernel_rfl) (by kernel_rfl) (by kernel_rfl) (fun _ _ _ h => h) (Or.inl ⟨by rfl, ?_⟩) hHeld ?_
          rotate_left
          · (intro w' hS'; go_simp <;> with_reducible rfl)
          simp only [Act.put, List.getElem_toArray, List.getElem_cons_succ, List.getElem_cons_zero, List.setIfInBounds_toArray, List.set]
          refine wpAnyH_take (i := 21) (v := ?_) rfl (by kernel_rfl) (by kernel_rfl) (by kernel_rfl) (fun _ _ _ h => h) (Or.inl ⟨by rfl, ?_⟩) hHeld ?_
          rotate_left
          · (intro w' hS'; have hq0 := hS'.1; have hq1 := hS'.2.1; have hq2 := hS'.2.2.1; have hq3 := hS'.2.2.2; go_simp <;> with_reducible rfl)
          simp only [Act.put, List.getElem_toArray, List.getElem_cons_succ, List.getElem_cons_zero, List.setIfInBounds_toArray, List.set]
          refine wpAnyH_take (i := 22) (v := ?_) rfl (by kernel_rfl) (by kernel_rfl) (by kernel_rfl) (fun _ _ _ h => h) (Or.inl ⟨by rfl, ?_⟩) hHeld ?_
          rotate_left
          · (intro w' hS'; go_simp <;> with_reducible rfl)
          simp only [Act.put, List.getElem_toArray, List.getElem_cons_succ, List.getElem_cons_zero, List.setIfInBounds_toArray, List.set]
          refine wpAnyH_take (i := 23) (v := ?_) rfl (by kernel_rfl) (by kernel_rfl) (by kernel_rfl) (fun _ _ _ h => h) (Or.inl ⟨by rfl, ?_⟩) hHeld ?_
          rotate_left
          · (intro w' hS'; go_simp <;> with_reducible rfl)
          simp only [Act.put, List.getElem_toArray, List.getElem_cons_succ, List.getElem_cons_zero, List.setIfInBounds_toArray, List.set]
          refine wpAnyH_take (i := 24) (v := undef) rfl (by kernel_rfl) (by kernel_rfl) (by kernel_rfl) (fun _ _ _ h => h) (Or.inr ⟨by rfl, rfl⟩) hHeld ?_
          simp only [Act.put, List.getElem_toArray, List.getElem_cons_succ, List.getElem_cons_zero, List.setIfInBounds_toArray, List.set]
          refine wpAnyH_take (i := 25) (v := undef) rfl (by kernel_rfl) (by kernel_rfl) (by kernel_rfl) (fun _ _ _ h => h) (Or.inr ⟨by rfl, rfl⟩) hHeld ?_
          simp only [Act.put, List.getElem_toArray, List.getElem_cons_succ, List.getElem_cons_zero, List.setIfInBounds_toArray, List.set]
          refine wpAnyH_take (i := 26) (v := undef) rfl (by kernel_rfl) (by kernel_rfl) (by kernel_rfl) (fun _ _ _ h => h) (Or.inr ⟨by rfl, rfl⟩) hHeld ?_
          simp only [Act.put, List.getElem_toArray, List.getElem_cons_succ, List.getElem_cons_zero, List.setIfInBounds_toArray, List.set]
          refine wpAnyH_take (i := 27) (v := undef) rfl (by kernel_rfl) (by kernel_rfl) (by kernel_rfl) (fun _ _ _ h => h) (Or.inr ⟨by rfl, rfl⟩) hHeld ?_
          simp only [Act.put, List.getElem_toArray, List.getElem_cons_succ, List.getElem_cons_zero, List.setIfInBounds_toArray, List.set]
          refine wpAnyH_take (i := 28) (v := undef) rfl (by kernel_rfl) (by kernel_rfl) (by kernel_rfl) (fun _ _ _ h => h) (Or.inr ⟨by rfl, rfl⟩) hHeld ?_
          simp only [Act.put, List.getElem_toArray, List.getElem_cons_succ, List.getElem_cons_zero, List.setIfInBounds_toArray, List.set]
          refine wpAnyH_take (i := 29) (v := ?_) rfl (by kernel_rfl) (by kernel_rfl) (by kernel_rfl) (fun _ _ _ h => h) (Or.inl ⟨by rfl, ?_⟩) hHeld ?_
          rotate_left
          · (intro w' hS'; go_simp <;> with_reducible rfl)
          simp only [Act.put, List.getElem_toArray, List.getElem_cons_succ, List.getElem_cons_zero, List.setIfInBounds_toArray, List.set]
          refine wpAnyH_take (i := 30) (v := ?_) rfl (by kernel_rfl) (by kernel_rfl) (by kernel_rfl) (fun _ _ _ h => h) (Or.inl ⟨by rfl, ?_⟩) hHeld ?_
          rotate_left
          · (intro w' hS'; go_simp <;> with_reducible rfl)
          simp only [Act.put, List.getElem_toArray, List.getElem_cons_succ, List.getElem_cons_zero, List.setIfInBounds_toArray, List.set]
          refine wpAnyH_take (i := 31) (v := ?_) rfl (by kernel_rfl) (by kernel_rfl) (by kernel_rfl) (fun _ _ _ h => h) (Or.inl ⟨by rfl, ?_⟩) hHeld ?_
          rotate_left
          · (intro w' hS'; go_simp <;> with_reducible rfl)
          simp only [Act.put, List.getElem_toArray, List.getElem_cons_succ, List.getElem_cons_zero, List.setIfInBounds_toArray, List.set]
          refine wpAnyH_done (by kernel_rfl) ?_ _
          have hx0 := hS19.1
          clear hS19
          have hrf := HRF.out W5.drew.drew HKW.out
          have HG := Hid.mk' (HEND.out W5.drew.drew HKW.out)
          clear HRF HEND HKW
          generalize W5.drew.drew = wz at hx0 hrf HG ⊢
          obtain ⟨⟨ov, p0⟩, p1, p2, p3, p4, p5, p6, p7, p8, p9, p10, p11⟩ := hrf
          gi_wp2
          exact HG.out
        · have hS19 : W5.drew.drew.cell? ⟨xb, 0, none⟩ = some (nu (i : Int)) ∧ W5.drew.drew.cell? ⟨lb, 0, none⟩ = some (nu (k : Int)) ∧ W5.drew.drew.cell? ⟨ab, i, none⟩ = some (nu (d i)) ∧ W5.drew.drew.cell? ⟨ab, k, none⟩ = some (nu (d k)) := ⟨HL2.1, HL2.2.1, HL2.2.2.1, HL2.2.2.2 k hkn⟩
          have hk0 : (0 : Int) ≤ (k : Int) := by omega
          have hk32 : (k : Int) < 32 := by omega
          have hg1 : ¬ d i < d k := by omega
          have hg2 : (d k == d i) = true := by simp only [beq_iff_eq]; exact heq
          have hg3 : ¬ i < k := by omega
          clear HL2 HLA HL heq
          refine Rn.region_calls (S := fun w' => w'.cell? ⟨xb, 0, none⟩ = some (nu (i : Int)) ∧ w'.cell? ⟨lb, 0, none⟩ = some (nu (k : Int)) ∧ w'.cell? ⟨ab, i, none⟩ = some (nu (d i)) ∧ w'.cell? ⟨ab, k, none⟩ = some (nu (d k))) (fun _ _ h => h) (by kernel_rfl) (by kernel_rfl) hS19 (fun hHeld => ?_)
          refine wpAnyH_take (i := 0) (v := ?_) rfl (by kernel_rfl) (by kernel_rfl) (by kernel_rfl) (fun _ _ _ h => h) (Or.inl ⟨by rfl, ?_⟩) hHeld ?_
          rotate_left
          · (intro w' hS'; go_simp <;> with_reducible rfl)
          simp only [Act.put, List.getElem_toArray, List.getElem_cons_succ, List.getElem_cons_zero, List.setIfInBounds_toArray, List.set]
          refine wpAnyH_take (i := 1) (v := ?_) rfl (by kernel_rfl) (by kernel_rfl) (by kernel_rfl) (fun _ _ _ h => h) (Or.inl ⟨by rfl, ?_⟩) hHeld ?_
          rotate_left
          · (intro w' hS'; have hq0 := hS'.1; have hq1 := hS'.2.1; have hq2 := hS'.2.2.1; have hq3 := hS'.2.2.2; go_simp <;> with_reducible rfl)
          simp only [Act.put, List.getElem_toArray, List.getElem_cons_succ, List.getElem_cons_zero, List.setIfInBounds_toArray, List.set]
          refine wpAnyH_take (i := 2) (v := ?_) rfl (by kernel_rfl) (by kernel_rfl) (by kernel_rfl) (fun _ _ _ h => h) (Or.inl ⟨by rfl, ?_⟩) hHeld ?_
          rotate_left
          · (intro w' hS'; go_simp <;> with_reducible rfl)
          simp only [Act.put, List.getElem_toArray, List.getElem_cons_succ, List.getElem_cons_zero, List.setIfInBounds_toArray, List.set]
          refine wpAnyH_take (i := 3) (v := ?_) rfl (by kernel_rfl) (by kernel_rfl) (by kernel_rfl) (fun _ _ _ h => h) (Or.inl ⟨by rfl, ?_⟩) hHeld ?_
          rotate_left
          · (intro w' hS'; go_simp <;> with_reducible rfl)
          simp only [Act.put, List.getElem_toArray, List.getElem_cons_succ, List.getElem_cons_zero, List.setIfInBounds_toArray, List.set]
          refine wpAnyH_take (i := 4) (v := ?_) rfl (by kernel_rfl) (by kernel_rfl) (by kernel_rfl) (fun _ _ _ h => h) (Or.inl ⟨by rfl, ?_⟩) hHeld ?_
          rotate_left
          · (intro w' hS'; go_simp <;> with_reducible rfl)
          simp only [Act.put, List.getElem_toArray, List.getElem_cons_succ, List.getElem_cons_zero, List.setIfInBounds_toArray, List.set]
          refine wpAnyH_take (i := 5) (v := ?_) rfl (by kernel_rfl) (by kernel_rfl) (by kernel_rfl) (fun _ _ _ h => h) (Or.inl ⟨by rfl, ?_⟩) hHeld ?_
          rotate_left
          · (intro w' hS'; have hq0 := hS'.1; have hq1 := hS'.2.1; have hq2 := hS'.2.2.1; have hq3 := hS'.2.2.2; go_simp <;> with_reducible rfl)
          simp only [Act.put, List.getElem_toArray, List.getElem_cons_succ, List.getElem_cons_zero, List.setIfInBounds_toArray, List.set]
          refine wpAnyH_take (i := 6) (v := ?_) rfl (by kernel_rfl) (by kernel_rfl) (by kernel_rfl) (fun _ _ _ h => h) (Or.inl ⟨by rfl, ?_⟩) hHeld ?_
          rotate_left
          · (intro w' hS'; go_simp <;> with_reducible rfl)
          simp only [Act.put, List.getElem_toArray, List.getElem_cons_succ, List.getElem_cons_zero, List.setIfInBounds_toArray, List.set]
          refine wpAnyH_take (i := 7) (v := ?_) rfl (by kernel_rfl) (by kernel_rfl) (by kernel_rfl) (fun _ _ _ h => h) (Or.inl ⟨by rfl, ?_⟩) hHeld ?_
          rotate_left
          · (intro w' hS'; have hq0 := hS'.1; have hq1 := hS'.2.1; have hq2 := hS'.2.2.1; have hq3 := hS'.2.2.2; go_simp <;> with_reducible rfl)
          simp only [Act.put, List.getElem_toArray, List.getElem_cons_succ, List.getElem_cons_zero, List.setIfInBounds_toArray, List.set]
          refine wpAnyH_take (i := 8) (v := ?_) rfl (by kernel_rfl) (by kernel_rfl) (by kernel_rfl) (fun _ _ _ h => h) (Or.inl ⟨by rfl, ?_⟩) hHeld ?_
          rotate_left
          · (intro w' hS'; go_simp <;> with_reducible rfl)
          simp only [Act.put, List.getElem_toArray, List.getElem_cons_succ, List.getElem_cons_zero, List.setIfInBounds_toArray, List.set]
          refine wpAnyH_take (i := 9) (v := ?_) rfl (by kernel_rfl) (by kernel_rfl) (by kernel_rfl) (fun _ _ _ h => h) (Or.inl ⟨by rfl, ?_⟩) hHeld ?_
          rotate_left
          · (intro w' hS'; have hq0 := hS'.1; have hq1 := hS'.2.1; have hq2 := hS'.2.2.1; have hq3 := hS'.2.2.2; go_simp <;> with_reducible rfl)
          simp only [Act.put, List.getElem_toArray, List.getElem_cons_succ, List.getElem_cons_zero, List.setIfInBounds_toArray, List.set]
          refine wpAnyH_take (i := 10) (v := ?_) rfl (by kernel_rfl) (by kernel_rfl) (by kernel_rfl) (fun _ _ _ h => h) (Or.inl ⟨by rfl, ?_⟩) hHeld ?_
          rotate_left
          · (intro w' hS'; go_simp <;> with_reducible rfl)
          simp only [Act.put, List.getElem_toArray, List.getElem_cons_succ, List.getElem_cons_zero, List.setIfInBounds_toArray, List.set]
          refine wpAnyH_take (i := 11) (v := ?_) rfl (by kernel_rfl) (by kernel_rfl) (by kernel_rfl) (fun _ _ _ h => h) (Or.inl ⟨by rfl, ?_⟩) hHeld ?_
          rotate_left
          · (intro w' hS'; have hq0 := hS'.1; have hq1 := hS'.2.1; have hq2 := hS'.2.2.1; have hq3 := hS'.2.2.2; go_simp <;> with_reducible rfl)
          simp only [Act.put, List.getElem_toArray, List.getElem_cons_succ, List.getElem_cons_zero, List.setIfInBounds_toArray, List.set]
          refine wpAnyH_take (i := 12) (v := ?_) rfl (by kernel_rfl) (by kernel_rfl) (by kernel_rfl) (fun _ _ _ h => h) (Or.inl ⟨by rfl, ?_⟩) hHeld ?_
          rotate_left
          · (intro w' hS'; go_simp <;> with_reducible rfl)
          simp only [Act.put, List.getElem_toArray, List.getElem_cons_succ, List.getElem_cons_zero, List.setIfInBounds_toArray, List.set]
          refine wpAnyH_take (i := 13) (v := ?_) rfl (by kernel_rfl) (by kernel_rfl) (by kernel_rfl) (fun _ _ _ h => h) (Or.inl ⟨by rfl, ?_⟩) hHeld ?_
          rotate_left
          · (intro w' hS'; go_simp <;> with_reducible rfl)
          simp only [Act.put, List.getElem_toArray, List.getElem_cons_succ, List.getElem_cons_zero, List.setIfInBounds_toArray, List.set]
          refine wpAnyH_take (i := 14) (v := ?_) rfl (by kernel_rfl) (by kernel_rfl) (by kernel_rfl) (fun _ _ _ h => h) (Or.inl ⟨by rfl, ?_⟩) hHeld ?_
          rotate_left
          · (intro w' hS'; go_simp <;> with_reducible rfl)
          simp only [Act.put, List.getElem_toArray, List.getElem_cons_succ, List.getElem_cons_zero, List.setIfInBounds_toArray, List.set]
          refine wpAnyH_take (i := 15) (v := ?_) rfl (by kernel_rfl) (by kernel_rfl) (by kernel_rfl) (fun _ _ _ h => h) (Or.inl ⟨by rfl, ?_⟩) hHeld ?_
          rotate_left
          · (intro w' hS'; have hq0 := hS'.1; have hq1 := hS'.2.1; have hq2 := hS'.2.2.1; have hq3 := hS'.2.2.2; go_simp <;> with_reducible rfl)
          simp only [Act.put, List.getElem_toArray, List.getElem_cons_succ, List.getElem_cons_zero, List.setIfInBounds_toArray, List.set]
          refine wpAnyH_take (i := 16) (v := ?_) rfl (by kernel_rfl) (by kernel_rfl) (by kernel_rfl) (fun _ _ _ h => h) (Or.inl ⟨by rfl, ?_⟩) hHeld ?_
          rotate_left
          · (intro w' hS'; go_simp <;> with_reducible rfl)
          simp only [Act.put, List.getElem_toArray, List.getElem_cons_succ, List.getElem_cons_zero, List.setIfInBounds_toArray, List.set]
          refine wpAnyH_take (i := 17) (v := ?_) rfl (by kernel_rfl) (by kernel_rfl) (by kernel_rfl) (fun _ _ _ h => h) (Or.inl ⟨by rfl, ?_⟩) hHeld ?_
          rotate_left
          · (intro w' hS'; have hq0 := hS'.1; have hq1 := hS'.2.1; have hq2 := hS'.2.2.1; have hq3 := hS'.2.2.2; go_simp <;> with_reducible rfl)
          simp only [Act.put, List.getElem_toArray, List.getElem_cons_succ, List.getElem_cons_zero, List.setIfInBounds_toArray, List.set]
          refine wpAnyH_take (i := 18) (v := ?_) rfl (by kernel_rfl) (by kernel_rfl) (by kernel_rfl) (fun _ _ _ h => h) (Or.inl ⟨by rfl, ?_⟩) hHeld ?_
          rotate_left
          · (intro w' hS'; go_simp <;> with_reducible rfl)
          simp only [Act.put, List.getElem_toArray, List.getElem_cons_succ, List.getElem_cons_zero, List.setIfInBounds_toArray, List.set]
          refine wpAnyH_take (i := 19) (v := ?_) rfl (by kernel_rfl) (by kernel_rfl) (by kernel_rfl) (fun _ _ _ h => h) (Or.inl ⟨by rfl, ?_⟩) hHeld ?_
          rotate_left
          · (intro w' hS'; have hq0 := hS'.1; have hq1 := hS'.2.1; have hq2 := hS'.2.2.1; have hq3 := hS'.2.2.2; go_simp <;> with_reducible rfl)
          simp only [Act.put, List.getElem_toArray, List.getElem_cons_succ, List.getElem_cons_zero, List.setIfInBounds_toArray, List.set]
          refine wpAnyH_take (i := 20) (v := ?_) rfl (by kernel_rfl) (by kernel_rfl) (by kernel_rfl) (fun _ _ _ h => h) (Or.inl ⟨by rfl, ?_⟩) hHeld ?_
          rotate_left
          · (intro w' hS'; go_simp <;> with_reducible rfl)
          simp only [Act.put, List.getElem_toArray, List.getElem_cons_succ, List.getElem_cons_zero, List.setIfInBounds_toArray, List.set]
          refine wpAnyH_take (i := 21) (v := ?_) rfl (by kernel_rfl) (by kernel_rfl) (by kernel_rfl) (fun _ _ _ h => h) (Or.inl ⟨by rfl, ?_⟩) hHeld ?_
          rotate_left
          · (intro w' hS'; have hq0 := hS'.1; have hq1 := hS'.2.1; have hq2 := hS'.2.2.1; have hq3 := hS'.2.2.2; go_simp <;> with_reducible rfl)
          simp only [Act.put, List.getElem_toArray, List.getElem_cons_succ, List.getElem_cons_zero, List.setIfInBounds_toArray, List.set]
          refine wpAnyH_take (i := 22) (v := ?_) rfl (by kernel_rfl) (by kernel_rfl) (by kernel_rfl) (fun _ _ _ h => h) (Or.inl ⟨by rfl, ?_⟩) hHeld ?_
          rotate_left
          · (intro w' hS'; go_simp <;> with_reducible rfl)
          simp only [Act.put, List.getElem_toArray, List.getElem_cons_succ, List.getElem_cons_zero, List.setIfInBounds_toArray, List.set]
          refine wpAnyH_take (i := 23) (v := ?_) rfl (by kernel_rfl) (by kernel_rfl) (by kernel_rfl) (fun _ _ _ h => h) (Or.inl ⟨by rfl, ?_⟩) hHeld ?_
          rotate_left
          · (intro w' hS'; go_simp <;> with_reducible rfl)
          simp only [Act.put, List.getElem_toArray, List.getElem_cons_succ, List.getElem_cons_zero, List.setIfInBounds_toArray, List.set]
          refine wpAnyH_take (i := 24) (v := ?_) rfl (by kernel_rfl) (by kernel_rfl) (by kernel_rfl) (fun _ _ _ h => h) (Or.inl ⟨by rfl, ?_⟩) hHeld ?_
          rotate_left
          · (intro w' hS'; go_simp <;> with_reducible rfl)
          simp only [Act.put, List.getElem_toArray, List.getElem_cons_succ, List.getElem_cons_zero, List.setIfInBounds_toArray, List.set]
          refine wpAnyH_take (i := 25) (v := ?_) rfl (by kernel_rfl) (by kernel_rfl) (by kernel_rfl) (fun _ _ _ h => h) (Or.inl ⟨by rfl, ?_⟩) hHeld ?_
          rotate_left
          · (intro w' hS'; have hq0 := hS'.1; have hq1 := hS'.2.1; have hq2 := hS'.2.2.1; have hq3 := hS'.2.2.2; go_simp <;> with_reducible rfl)
          simp only [Act.put, List.getElem_toArray, List.getElem_cons_succ, List.getElem_cons_zero, List.setIfInBounds_toArray, List.set]
          refine wpAnyH_take (i := 26) (v := ?_) rfl (by kernel_rfl) (by kernel_rfl) (by kernel_rfl) (fun _ _ _ h => h) (Or.inl ⟨by rfl, ?_⟩) hHeld ?_
          rotate_left
          · (intro w' hS'; go_simp <;> with_reducible rfl)
          simp only [Act.put, List.getElem_toArray, List.getElem_cons_succ, List.getElem_cons_zero, List.setIfInBounds_toArray, List.set]
          refine wpAnyH_take (i := 27) (v := ?_) rfl (by kernel_rfl) (by kernel_rfl) (by kernel_rfl) (fun _ _ _ h => h) (Or.inl ⟨by rfl, ?_⟩) hHeld ?_
          rotate_left
          · (intro w' hS'; have hq0 := hS'.1; have hq1 := hS'.2.1; have hq2 := hS'.2.2.1; have hq3 := hS'.2.2.2; go_simp <;> with_reducible rfl)
          simp only [Act.put, List.getElem_toArray, List.getElem_cons_succ, List.getElem_cons_zero, List.setIfInBounds_toArray, List.set]
          refine wpAnyH_take (i := 28) (v := ?_) rfl (by kernel_rfl) (by kernel_rfl) (by kernel_rfl) (fun _ _ _ h => h) (Or.inl ⟨by rfl, ?_⟩) hHeld ?_
          rotate_left
          · (intro w' hS'; go_simp <;> with_reducible rfl)
          simp only [Act.put, List.getElem_toArray, List.getElem_cons_succ, List.getElem_cons_zero, List.setIfInBounds_toArray, List.set]
          refine wpAnyH_take (i := 29) (v := ?_) rfl (by kernel_rfl) (by kernel_rfl) (by kernel_rfl) (fun _ _ _ h => h) (Or.inl ⟨by rfl, ?_⟩) hHeld ?_
          rotate_left
          · (intro w' hS'; go_simp <;> with_reducible rfl)
          simp only [Act.put, List.getElem_toArray, List.getElem_cons_succ, List.getElem_cons_zero, List.setIfInBounds_toArray, List.set]
          refine wpAnyH_take (i := 30) (v := ?_) rfl (by kernel_rfl) (by kernel_rfl) (by kernel_rfl) (fun _ _ _ h => h) (Or.inl ⟨by rfl, ?_⟩) hHeld ?_
          rotate_left
          · (intro w' hS'; go_simp <;> with_reducible rfl)
          simp only [Act.put, List.getElem_toArray, List.getElem_cons_succ, List.getElem_cons_zero, List.setIfInBounds_toArray, List.set]
          refine wpAnyH_take (i := 31) (v := ?_) rfl (by kernel_rfl) (by kernel_rfl) (by kernel_rfl) (fun _ _ _ h => h) (Or.inl ⟨by rfl, ?_⟩) hHeld ?_
          rotate_left
          · (intro w' hS'; go_simp <;> with_reducible rfl)
          simp only [Act.put, List.getElem_toArray, List.getElem_cons_succ, List.getElem_cons_zero, List.setIfInBounds_toArray, List.set]
          refine wpAnyH_done (by kernel_rfl) ?_ _
          have hx0 := hS19.1
          clear hS19
          have hrf := HRF.out W5.drew.drew HKW.out
          have HG := Hid.mk' (HEND.out W5.drew.drew HKW.out)
          clear HRF HEND HKW
          generalize W5.drew.drew = wz at hx0 hrf HG ⊢
          obtain ⟨⟨ov, p0⟩, p1, p2, p3, p4, p5, p6, p7, p8, p9, p10, p11⟩ := hrf
          gi_wp2
          exact HG.out
      case done =>
        rintro W5 ⟨F', L', pre, hS, hG, hx⟩ hK
        have hlen := hG.len
        have hlast := hG.last hx
        obtain ⟨rb, hrb⟩ : ∃ rb, W5.heap.size = rb := ⟨_, rfl⟩
        obtain ⟨W8, hW8⟩ : ∃ W8, W5.alloc (.cells #[.int .i64 0] 3) = W8 := ⟨_, rfl⟩
        have hk8 : Keep (fun _ => False) W5 W8 := by rw [← hW8]; exact (Keep.refl _ _).alloc _
        have hr8 : W8.heap[rb]? = some (.cells #[nun 0] 3) := by rw [← hW8, ← hrb]; exact heap_alloc_new _ _
        have hS8 := hS.keep C hk8 (fun _ e => e.elim)
        have hK8 := hk8.at hK (fun e => e)
        have hrw : w7.heap.size < rb := by have := (Array.getElem?_eq_some_iff.1 hK).1; omega
        have HF5 := Hid.mk' (C.lt hS.1.xe.rep)
        have HWR : Hid (w.heap.size ≤ rb) := by have := hS.1.sz0; show _ ≤ _; omega
        have HQR : Hid (∀ k, Qa q0 q1 ab nb k ∨ Qb ob cb lb k → k ≠ rb) := fun k hk e => by have := (hS.2.2.2.1 k hk).2.2.1; omega
        have HLAST := Hid.mk' hlast
        have HLEN := Hid.mk' hlen
        have HS8 := Hid.mk' hS8
        have HK8 := Hid.mk' hK8
        have HR8 := Hid.mk' hr8
        have HRW := Hid.mk' hrw
        have HG := Hid.mk' hG
        have HX := Hid.mk' hx
        have HRB := Hid.mk' hrb
        have HW8 := Hid.mk' hW8
        have n0 := hS8.2.1.cells.2.2.2
        clear hlen hlast hrb hW8 hk8 hr8 hS8 hK8 hrw hS hG hx hK
        go_upto_region 27 with fail
        rw [HW8.out, HRB.out]
        go_wp2_with fail
        go_loopw [14] (fun iv wr => ∃ k : Nat, k ≤ n ∧ iv = nun k ∧ Hid (Keep (fun _ => False) W8 wr)) (fun iv _ => n - (intOf iv).toNat)
        case atStart => exact ⟨0, Nat.zero_le _, rfl, Keep.refl _ _⟩
        case round =>
          clear n0
          obtain ⟨k, hk, rfl, HKP⟩ := hrel
          obtain ⟨g1, g2, g3, g4⟩ := HS8.out.keep C HKP.out (fun _ e => e.elim)
          have n0 := g2.cells.2.2.2
          by_cases hkn : k < n
          · have hk32 : (k : Int) < 32 := by have := HN.out; omega
            have hk0 : (0 : Int) ≤ (k : Int) := Int.natCast_nonneg k
            have hk32' : k < 32 := by have := HN.out; omega
            obtain ⟨bb, hbb⟩ : ∃ bb, outF pre k = bb := ⟨_, rfl⟩
            have e1 := g3.eo.cell hk32'
            rw [hbb] at e1
            have e2 := g2.ea.cell hk32'
            rw [dzE_all n d hkn] at e2
            have e3 := g2.cells.1
            have hdb : decide (d k ≤ now) = bb := by rw [← hbb]; exact (HLAST.out k hkn).symm
            have hSd : wr.drew.cell? ⟨ob, k, none⟩ = some (.bool bb) ∧ wr.drew.cell? ⟨ab, k, none⟩ = some (nu (d k)) ∧ wr.drew.cell? ⟨q0, 0, none⟩ = some (nu now) := ⟨e1, e2, e3⟩
            have hkI : (k : Int) < (n : Int) := by omega
            have hbn : (bb != bb) = false := by simp
            have HKD : Hid (Keep (fun _ => False) W8 wr.drew) := HKP.out.drew
            clear g1 g2 g3 g4 hbb e1 e2 e3 hk32'
            go_wp2_with fail
            go_region_held3 (fun w' => w'.cell? ⟨ob, k, none⟩ = some (.bool bb) ∧ w'.cell? ⟨ab, k, none⟩ = some (nu (d k)) ∧ w'.cell? ⟨q0, 0, none⟩ = some (nu now)) (first | assumption | exact hSd | fail) (fail)
            go_wp2
            go_roundw
            case rel => exact ⟨k + 1, by omega, by go_num, HKD⟩
            case measure => simp [intOf] <;> omega
          · have hkI : ¬ (k : Int) < (n : Int) := by omega
            obtain ⟨nx, hnx⟩ : ∃ nx, nextE L' = nx := ⟨_, rfl⟩
            obtain ⟨ok, hok⟩ : ∃ ok, snextE L' = ok := ⟨_, rfl⟩
            have HOK : Hid ((ok = true → now < nx) ∧ (ok = decide (0 < L'.length))) := by
              rw [← hok, ← hnx]
              cases L' with
              | nil => exact ⟨(fun e => by cases e), rfl⟩
              | cons x M => exact ⟨fun _ => HX.out x M rfl, by simp [snextE]⟩
            have cN : Hid (Calls Try.prog 10 #[ptr p] wr fun e w' => e = .returned (.tuple #[nu nx, .bool ok]) ∧ w'.cell? ⟨q0, 0, none⟩ = some (nu now) ∧ Hid (Keep (fun _ => False) W8 w')) := by
              have := C.next wr p F' L' g1.xe.rep
              rw [hnx, hok] at this
              refine this.mono ?_
              rintro e w' ⟨rfl, hb⟩
              exact ⟨rfl, (g2.below hb).cells.1, HKP.out.trans (Keep.of_below (F := fun _ => False) hb) (fun _ _ e => e)⟩
            clear hnx hok g1 g2 g3 g4 HKP
            go_wp2_with fail
            refine cN.out.mono ?_
            rintro e w10 ⟨rfl, z0, HK10⟩
            clear cN
            have cDu : Hid (Calls Try.prog 9 #[ptr p, nu 1099511627776] w10 fun e w' => ∃ gf lb, e = .returned (.func (.func gf) #[] lb) ∧ Hid (Xe R w w' p F' L' ∧ Below w10.heap.size w10 w' ∧ ∃ X, IterX R w' (.func (.func gf) #[] lb) X p 1099511627776 ∧ ∀ b, X b → w10.heap.size ≤ b)) := by
              have hx10 := (HS8.out.keep C HK10.out (fun _ e => e.elim)).1.xe
              exact hx10.due C 1099511627776
            cases ok with
            | false =>
              go_wp2_with fail
              refine cDu.out.mono ?_
              rintro e w11 ⟨gf2, lb11, rfl, HQ11⟩
              obtain ⟨hx11, hb11, X2, hit2, hXn2⟩ := HQ11.out
              obtain ⟨gf3, lb3, kk2, e92, hent2, hXl2, hsq2⟩ := hit2
              simp only [Value.func.injEq, Fn.func.injEq, true_and] at e92
              obtain ⟨rfl, rfl⟩ := e92
              obtain ⟨hi2, hhi2⟩ : ∃ hi2, w11.heap.size + 2 + kk2 = hi2 := ⟨_, rfl⟩
              have hst : Sb R w w11 p X2 hi2 q0 q1 ab nb ob cb lb now n d F' pre L' w11 ∧ w11.heap[rb]? = some (.cells #[nun 0] 3) ∧ w11.heap[w7.heap.size]? = some (.deferred (some [])) ∧ ¬ F' rb ∧ ¬ F' w7.heap.size ∧ rb < w11.heap.size ∧ ¬ X2 rb := by
                obtain ⟨s1, s2, s3, s4, s5⟩ := HS8.out
                have hk11 : Keep (fun _ => False) W8 w11 := HK10.out.trans (Keep.of_below (F := fun _ => False) hb11) (fun _ _ e => e)
                have hr := hk11.at HR8.out (fun e => e)
                have hrl := (Array.getElem?_eq_some_iff.1 HR8.out).1
                have hs10 := HK10.out.size
                have hFr : ∀ k, F' k → k ≠ rb ∧ k ≠ w7.heap.size := fun k hk => by
                  refine ⟨fun e => ?_, fun e => (s1.off k hk).2 ⟨by omega, by have := HHI.out; omega⟩⟩
                  have := HF5.out k hk
                  have := HRB.out
                  omega
                refine ⟨⟨Lp.start C hx11 (fun j hj => ⟨hXl2 j hj, fun e => ?_, ?_⟩), s2.keep hk11 (fun _ _ e => e), s3.keep hk11 (fun _ _ e => e), fun k hk => ?_, s5⟩, hr, hk11.at HK8.out (fun e => e), fun e => (hFr rb e).1 rfl, fun e => (hFr _ e).2 rfl, by have := hb11.size; omega, fun e => by have := hXn2 rb e; omega⟩
                · have := C.lt s1.xe.rep j e
                  have := hXn2 j hj
                  omega
                · have := hXn2 j hj
                  have := s1.xe.bel.size
                  omega
                · obtain ⟨h1, h2, h3, h4⟩ := s4 k hk
                  have := HRW.out
                  have := hb11.size
                  exact ⟨h1, fun e => by have := hXn2 k e; omega, by omega, h4⟩
              have HSTT := Hid.mk' hst
              have HHI2 := Hid.mk' hhi2
              have HXL2 := Hid.mk' hXl2
              have HSQ2 := Hid.mk' hsq2
              obtain ⟨lp, hlp⟩ : ∃ lp, L'.length = lp := ⟨_, rfl⟩
              have HLP := Hid.mk' hlp
              have hlpn : lp ≤ n := by have := HLEN.out; omega
              have HLPN := Hid.mk' hlpn
              have hn1000 : n ≤ 1000 := by omega
              have HN1 := Hid.mk' hn1000
              clear hx11 hb11 hXn2 hst hhi2 hsq2 HQ11 cDu hlp hlpn hn1000
              go_wp2_with fail
              refine Rf.wp_rangeM rfl hent2 HSQ2.out (fun _ => rfl) HXL2.out
                (fun c mm W' => ∃ cnt : Nat, Sb R w w11 p X2 hi2 q0 q1 ab nb ob cb lb now n d c.1 pre c.2 W' ∧ W'.heap[rb]? = some (.cells #[nun cnt] 3) ∧ W'.heap[w7.heap.size]? = some (.deferred (some [])) ∧ (¬ c.1 rb ∧ ¬ c.1 w7.heap.size) ∧ cnt + c.2.length = lp ∧ c.2.length = mm)
                (fun c mm x W' => ∃ cnt : Nat, Sb R w w11 p X2 hi2 q0 q1 ab nb ob cb lb now n d c.1 pre c.2 W' ∧ W'.heap[rb]? = some (.cells #[nun cnt] 3) ∧ W'.heap[w7.heap.size]? = some (.deferred (some [])) ∧ (¬ c.1 rb ∧ ¬ c.1 w7.heap.size) ∧ cnt + 1 + c.2.length = lp ∧ c.2.length + 1 = mm)
                (fun W' => ∃ F2, Sb R w w11 p X2 hi2 q0 q1 ab nb ob cb lb now n d F2 pre [] W' ∧ W'.heap[rb]? = some (.cells #[nun lp] 3) ∧ W'.heap[w7.heap.size]? = some (.deferred (some [])))
                (fun _ _ => False)
                lp ((F', L') : Kn) ?readyA ?footA ?restIA ?restMA ?restDA ?restXA ?stepA ?lastA ⟨0, HSTT.out.1, HSTT.out.2.1, HSTT.out.2.2.1, ⟨HSTT.out.2.2.2.1, HSTT.out.2.2.2.2.1⟩, by have := HLP.out; show 0 + L'.length = lp; omega, HLP.out⟩ ?actA ?assignA ?bodyA ?doneA ?stopA
              case assignA =>
                intro l'' x W' K hK
                refine wpIn_skip ?_
                exact hK
              case readyA =>
                rintro c mm W' ⟨cnt, hS, _⟩
                exact hS.1.ready
              case footA =>
                rintro c mm W' ⟨cnt, hS, _⟩ b hb
                rw [HHI2.out]
                exact (hS.1.off b hb).2
              case restIA =>
                intro c mm A B hk
                rw [HHI2.out] at hk
                have h1 := HSTT.out.2.2.2.2.2.1
                have h2 := HRW.out
                rintro ⟨cnt, hS, g1, g2, g3⟩
                exact ⟨cnt, Sb.rest C A B hk hS, hk.at g1 (by omega), hk.at g2 (by omega), g3⟩
              case restMA =>
                intro c mm x A B hk
                rw [HHI2.out] at hk
                have h1 := HSTT.out.2.2.2.2.2.1
                have h2 := HRW.out
                rintro ⟨cnt, hS, g1, g2, g3⟩
                exact ⟨cnt, Sb.rest C A B hk hS, hk.at g1 (by omega), hk.at g2 (by omega), g3⟩
              case restDA =>
                intro A B hk
                rw [HHI2.out] at hk
                have h1 := HSTT.out.2.2.2.2.2.1
                have h2 := HRW.out
                rintro ⟨F2, hS, g1, g2⟩
                exact ⟨F2, Sb.rest C A B hk hS, hk.at g1 (by omega), hk.at g2 (by omega)⟩
              case restXA => exact fun _ _ _ _ h => h.elim
              case stepA =>
                rintro c mm x c' W0 W1' hsz ⟨cnt, hS, g1, g2, g3, g4, g5⟩ hst
                rw [HHI2.out] at hsz ⊢
                obtain ⟨e1, e2, e3, e4⟩ := Sb.step C hS hsz hst
                have hkk := hst.2.2.2.1
                have hnew := hst.2.2.2.2
                have h1 := HSTT.out.2.2.2.2.2.1
                have h2 := HRW.out
                have h3 := hS.1.sz
                rw [e1] at g4 g5
                refine ⟨⟨cnt, e3, hkk.at g1 g3.1, hkk.at g2 g3.2, ⟨fun e => ?_, fun e => ?_⟩, by simp at g4; omega, by simpa using g5⟩, e4⟩
                · rcases hnew _ e with e | e
                  · exact g3.1 e
                  · omega
                · rcases hnew _ e with e | e
                  · exact g3.2 e
                  · omega
              case lastA =>
                rintro c mm c' W0 W1' hsz ⟨cnt, hS, g1, g2, g3, g4, g5⟩ hst
                rw [HHI2.out]
                have hb := hst.2
                have hnil : c.2 = [] := by
                  cases hc : c.2 with
                  | nil => rfl
                  | cons y M =>
                    have h1 := hst.1 y M hc
                    have h2 := ((C.ge hS.1.xe.rep).ok y (by rw [hc]; simp)).2.2.2
                    omega
                refine ⟨⟨c.1, ?_, ?_, (hb.block _ (Array.getElem?_eq_some_iff.1 g2).1).trans g2⟩, Rf.Lets.keep (Keep.of_below (F := fun _ => False) hb) (fun _ e => e.elim)⟩
                · have := Sb.below C hS hb
                  rwa [hnil] at this
                · rw [hnil] at g4
                  have e : cnt = lp := by simpa using g4
                  rw [e] at g1
                  exact (hb.block _ (Array.getElem?_eq_some_iff.1 g1).1).trans g1
              case bodyA =>
                rintro l'' c mm x W2 ⟨cnt, hS, g1, g2, g3, g4, g5⟩ hsz
                obtain ⟨c9, hc9⟩ : ∃ c9, cnt + 1 = c9 := ⟨_, rfl⟩
                have hcn : ¬ n < c9 := by have := HLPN.out; omega
                have hcl : cnt ≤ 1000 := by have := HLPN.out; have := HN1.out; omega
                have hm0 : W2.cell? ⟨rb, 0, none⟩ = some (nun cnt) := by rw [cell_of_row W2 rb 0 _ _ _ g1]; rfl
                have hm1 : W2.frozen? ⟨rb, 0, none⟩ = false := by simp [World.frozen?, g1]
                have kk := set_keepE W2 rb 0 (nun c9)
                have hr9 := set_oneE (v := nun c9) g1
                have hm2 : (W2.setCell ⟨rb, 0, none⟩ (nun c9)).cell? ⟨rb, 0, none⟩ = some (nun c9) := by rw [cell_of_row _ rb 0 _ _ _ hr9]; rfl
                have h1 := HSTT.out.2.2.2.2.2.1
                have h2 := HSTT.out.2.2.2.2.2.2
                have h3 := HRW.out
                have hS9 : Sb R w w11 p X2 hi2 q0 q1 ab nb ob cb lb now n d c.1 pre c.2 (W2.setCell ⟨rb, 0, none⟩ (nun c9)) := by
                  have hq := HQR.out
                  refine ⟨hS.1.keep C kk (fun k e => ?_), hS.2.1.keep kk (fun k hk e => hq k (.inl hk) e), hS.2.2.1.keep kk (fun k hk e => hq k (.inr hk) e), hS.2.2.2⟩
                  subst e
                  exact ⟨g3.1, h2, by have := HWR.out; omega⟩
                have hm3 := hS9.2.1.cells.2.2.2
                have HG2 : Hid (Rf.Lets X2 w11.heap.size (w11.heap.size + 2 + kk2) W2 (W2.setCell ⟨rb, 0, none⟩ (nun c9)) ∧ ∃ (c : Kn) (j : Nat), j < mm ∧ ∃ cnt : Nat, Sb R w w11 p X2 hi2 q0 q1 ab nb ob cb lb now n d c.1 pre c.2 (W2.setCell ⟨rb, 0, none⟩ (nun c9)) ∧ (W2.setCell ⟨rb, 0, none⟩ (nun c9)).heap[rb]? = some (.cells #[nun cnt] 3) ∧ (W2.setCell ⟨rb, 0, none⟩ (nun c9)).heap[w7.heap.size]? = some (.deferred (some [])) ∧ (¬ c.1 rb ∧ ¬ c.1 w7.heap.size) ∧ cnt + c.2.length = lp ∧ c.2.length = j) :=
                  ⟨Rf.Lets.keep kk (fun k e => ⟨fun hx => h2 (e ▸ hx), by omega⟩), c, c.2.length, by omega, c9, hS9, hr9, kk.at g2 (by omega), g3, by omega, rfl⟩
                have hwr := wrap_next cnt c9 hcl hc9
                have hwr2 := wrap_next2 cnt c9 hcl hc9
                clear hS g1 g2 g3 g4 g5 hsz hc9 hcl kk hr9 h1 h2 h3 hS9
                gi_wp2
                exact HG2.out
              case doneA =>
                rintro W12 ⟨F2, hS, g1, g2⟩ hK2
                obtain ⟨pl, hpl⟩ : ∃ pl, pre.length = pl := ⟨_, rfl⟩
                have hsum : pl + lp = n := by have := HLEN.out; have := HLP.out; omega
                have hwn : wrap64 ((n : Int) - (pl : Int)) = (lp : Int) := wrap_sub n pl lp HN1.out hsum
                have hwn2 : IntKind.i64.wrap ((n : Int) - (pl : Int)) = (lp : Int) := wrap_sub2 n pl lp HN1.out hsum
                have cN2 : Hid (Calls Try.prog 10 #[ptr p] W12 fun e w' => e = .returned (.tuple #[nu 0, .bool false]) ∧ Hid (Below W12.heap.size W12 w')) := by
                  refine (C.next W12 p F2 [] hS.1.xe.rep).mono ?_
                  rintro e w' ⟨rfl, hb⟩
                  exact ⟨rfl, hb⟩
                have HFACT : Hid (∀ wz, Below W12.heap.size W12 wz → wz.cell? ⟨rb, 0, none⟩ = some (nun lp) ∧ wz.cell? ⟨nb, 0, none⟩ = some (nun n) ∧ wz.cell? ⟨cb, 0, none⟩ = some (nun pl) ∧ (wz.cell? ⟨q1, 0, none⟩ = some (.bool false) ∧ wz.frozen? ⟨q1, 0, none⟩ = false) ∧ wz.heap[w7.heap.size]? = some (.deferred (some [])) ∧ wz.heap[w11.heap.size]? = some (.deferred (some [])) ∧ wz.heap[q1]? = some (.cells #[.bool false] 4) ∧ Below w.heap.size w wz) := fun wz hb => by
                  have hS2 := hS.below C hb
                  have r1 := (hb.block _ (Array.getElem?_eq_some_iff.1 g1).1).trans g1
                  have e4 := hS2.2.2.1.cells.1
                  rw [hpl] at e4
                  exact ⟨by rw [cell_of_row wz rb 0 _ _ _ r1]; rfl, hS2.2.1.cells.2.2.2, e4, ⟨hS2.2.1.cells.2.1, hS2.2.1.cells.2.2.1⟩, (hb.block _ (Array.getElem?_eq_some_iff.1 g2).1).trans g2, (hb.block _ (Array.getElem?_eq_some_iff.1 hK2).1).trans hK2, hS2.2.1.e1, hS2.1.xe.bel⟩
                have hgt := (HOK.out.2.symm)
                rw [HLP.out] at hgt
                have hgt := Hid.mk' hgt
                have HW711 : Hid (w7.heap.size < w11.heap.size) := by have h1 := HSTT.out.2.2.2.2.2.1; have h2 := HRW.out; show _ < _; omega
                have HNE : Hid (q1 ≠ w7.heap.size ∧ q1 ≠ w11.heap.size ∧ w.heap.size ≤ q1 ∧ w.heap.size ≤ w7.heap.size ∧ w.heap.size ≤ w11.heap.size) := by
                  have h1 := hS.2.2.2.1 q1 (.inl (.inr (.inl rfl)))
                  have h2 := HSB.out.2.2.2.1 q1 (.inl (.inr (.inl rfl)))
                  have h3 := hS.1.sz0
                  have h4 := HSB.out.1.sz0
                  show _ ∧ _
                  omega
                clear hS g1 g2 hK2 hpl hsum
                go_wp2_with fail
                refine cN2.out.mono ?_
                rintro e w13 ⟨rfl, HB13⟩
                obtain ⟨z1, z2, z3, ⟨z4, z5⟩, z6, z7, z8, z9⟩ := HFACT.out w13 HB13.out
                have HZ6 := Hid.mk' z6
                have HZ7 := Hid.mk' z7
                have HZ8 := Hid.mk' z8
                have HZ9 := Hid.mk' z9
                clear z6 z7 z8 z9 cN2 HFACT HB13
                have hg0 : ¬ 0 < lp := of_decide_eq_false hgt.out
                go_wp2
                have hne := HNE.out
                have h711 := HW711.out
                have hf8 : (w13.setCell ⟨q1, 0, none⟩ (.bool true)).heap[q1]? = some (.cells #[.bool true] 4) := set_oneE HZ8.out
                have hkq : Keep (fun k => k = q1) w13 (w13.setCell ⟨q1, 0, none⟩ (.bool true)) := set_keepE w13 q1 0 (.bool true)
                have hA : (w13.setCell ⟨q1, 0, none⟩ (.bool true)).heap[w11.heap.size]? = some (.deferred (some [])) := hkq.at HZ7.out (fun e => hne.2.1 e.symm)
                have hk1 : Keep (fun k => k = w11.heap.size) (w13.setCell ⟨q1, 0, none⟩ (.bool true)) ((w13.setCell ⟨q1, 0, none⟩ (.bool true)).putObj w11.heap.size (.deferred none)) := Rf.keep_put _ _ _ rfl
                have hB : ((w13.setCell ⟨q1, 0, none⟩ (.bool true)).putObj w11.heap.size (.deferred none)).heap[w7.heap.size]? = some (.deferred (some [])) := hk1.at (hkq.at HZ6.out (fun e => hne.1 e.symm)) (by omega)
                have hk2 : Keep (fun k => k = w7.heap.size) ((w13.setCell ⟨q1, 0, none⟩ (.bool true)).putObj w11.heap.size (.deferred none)) (((w13.setCell ⟨q1, 0, none⟩ (.bool true)).putObj w11.heap.size (.deferred none)).putObj w7.heap.size (.deferred none)) := Rf.keep_put _ _ _ rfl
                have hf9 := hk2.at (hk1.at hf8 (fun e => hne.2.1 e)) (fun e => hne.1 e)
                have hall : Keep (fun k => w.heap.size ≤ k) w13 (((w13.setCell ⟨q1, 0, none⟩ (.bool true)).putObj w11.heap.size (.deferred none)).putObj w7.heap.size (.deferred none)) :=
                  ((hkq.weaken (fun k _ e => by show _ ≤ _; omega)).trans hk1 (fun k _ e => by show _ ≤ _; omega)).trans hk2 (fun k _ e => by show _ ≤ _; omega)
                refine ⟨by simp, .inl ⟨_, _, rfl, run_takeDeferred hA, ?_⟩⟩
                refine ⟨by simp, .inl ⟨_, _, rfl, run_takeDeferred hB, ?_⟩⟩
                exact ⟨_, results_bool2 rfl _ _ q1 true rfl (by rw [cell_of_row _ q1 0 _ _ _ hf9]; rfl), rfl, HZ9.out.trans (hall.below (fun k hk e => by omega) HZ9.out.size)⟩
              case stopA => exact fun _ _ h => h.elim
            | true =>
              have hnd : ¬ nx ≤ now := by have := HOK.out.1 rfl; omega
              go_wp2_with fail
              refine cDu.out.mono ?_
              rintro e w11 ⟨gf2, lb11, rfl, HQ11⟩
              obtain ⟨hx11, hb11, X2, hit2, hXn2⟩ := HQ11.out
              obtain ⟨gf3, lb3, kk2, e92, hent2, hXl2, hsq2⟩ := hit2
              simp only [Value.func.injEq, Fn.func.injEq, true_and] at e92
              obtain ⟨rfl, rfl⟩ := e92
              obtain ⟨hi2, hhi2⟩ : ∃ hi2, w11.heap.size + 2 + kk2 = hi2 := ⟨_, rfl⟩
              have hst : Sb R w w11 p X2 hi2 q0 q1 ab nb ob cb lb now n d F' pre L' w11 ∧ w11.heap[rb]? = some (.cells #[nun 0] 3) ∧ w11.heap[w7.heap.size]? = some (.deferred (some [])) ∧ ¬ F' rb ∧ ¬ F' w7.heap.size ∧ rb < w11.heap.size ∧ ¬ X2 rb := by
                obtain ⟨s1, s2, s3, s4, s5⟩ := HS8.out
                have hk11 : Keep (fun _ => False) W8 w11 := HK10.out.trans (Keep.of_below (F := fun _ => False) hb11) (fun _ _ e => e)
                have hr := hk11.at HR8.out (fun e => e)
                have hrl := (Array.getElem?_eq_some_iff.1 HR8.out).1
                have hs10 := HK10.out.size
                have hFr : ∀ k, F' k → k ≠ rb ∧ k ≠ w7.heap.size := fun k hk => by
                  refine ⟨fun e => ?_, fun e => (s1.off k hk).2 ⟨by omega, by have := HHI.out; omega⟩⟩
                  have := HF5.out k hk
                  have := HRB.out
                  omega
                refine ⟨⟨Lp.start C hx11 (fun j hj => ⟨hXl2 j hj, fun e => ?_, ?_⟩), s2.keep hk11 (fun _ _ e => e), s3.keep hk11 (fun _ _ e => e), fun k hk => ?_, s5⟩, hr, hk11.at HK8.out (fun e => e), fun e => (hFr rb e).1 rfl, fun e => (hFr _ e).2 rfl, by have := hb11.size; omega, fun e => by have := hXn2 rb e; omega⟩
                · have := C.lt s1.xe.rep j e
                  have := hXn2 j hj
                  omega
                · have := hXn2 j hj
                  have := s1.xe.bel.size
                  omega
                · obtain ⟨h1, h2, h3, h4⟩ := s4 k hk
                  have := HRW.out
                  have := hb11.size
                  exact ⟨h1, fun e => by have := hXn2 k e; omega, by omega, h4⟩
              have HSTT := Hid.mk' hst
              have HHI2 := Hid.mk' hhi2
              have HXL2 := Hid.mk' hXl2
              have HSQ2 := Hid.mk' hsq2
              obtain ⟨lp, hlp⟩ : ∃ lp, L'.length = lp := ⟨_, rfl⟩
              have HLP := Hid.mk' hlp
              have hlpn : lp ≤ n := by have := HLEN.out; omega
              have HLPN := Hid.mk' hlpn
              have hn1000 : n ≤ 1000 := by omega
              have HN1 := Hid.mk' hn1000
              clear hx11 hb11 hXn2 hst hhi2 hsq2 HQ11 cDu hlp hlpn hn1000
              go_wp2_with fail
              refine Rf.wp_rangeM rfl hent2 HSQ2.out (fun _ => rfl) HXL2.out
                (fun c mm W' => ∃ cnt : Nat, Sb R w w11 p X2 hi2 q0 q1 ab nb ob cb lb now n d c.1 pre c.2 W' ∧ W'.heap[rb]? = some (.cells #[nun cnt] 3) ∧ W'.heap[w7.heap.size]? = some (.deferred (some [])) ∧ (¬ c.1 rb ∧ ¬ c.1 w7.heap.size) ∧ cnt + c.2.length = lp ∧ c.2.length = mm)
                (fun c mm x W' => ∃ cnt : Nat, Sb R w w11 p X2 hi2 q0 q1 ab nb ob cb lb now n d c.1 pre c.2 W' ∧ W'.heap[rb]? = some (.cells #[nun cnt] 3) ∧ W'.heap[w7.heap.size]? = some (.deferred (some [])) ∧ (¬ c.1 rb ∧ ¬ c.1 w7.heap.size) ∧ cnt + 1 + c.2.length = lp ∧ c.2.length + 1 = mm)
                (fun W' => ∃ F2, Sb R w w11 p X2 hi2 q0 q1 ab nb ob cb lb now n d F2 pre [] W' ∧ W'.heap[rb]? = some (.cells #[nun lp] 3) ∧ W'.heap[w7.heap.size]? = some (.deferred (some [])))
                (fun _ _ => False)
                lp ((F', L') : Kn) ?readyB ?footB ?restIB ?restMB ?restDB ?restXB ?stepB ?lastB ⟨0, HSTT.out.1, HSTT.out.2.1, HSTT.out.2.2.1, ⟨HSTT.out.2.2.2.1, HSTT.out.2.2.2.2.1⟩, by have := HLP.out; show 0 + L'.length = lp; omega, HLP.out⟩ ?actB ?assignB ?bodyB ?doneB ?stopB
              case assignB =>
                intro l'' x W' K hK
                refine wpIn_skip ?_
                exact hK
              case readyB =>
                rintro c mm W' ⟨cnt, hS, _⟩
                exact hS.1.ready
              case footB =>
                rintro c mm W' ⟨cnt, hS, _⟩ b hb
                rw [HHI2.out]
                exact (hS.1.off b hb).2
              case restIB =>
                intro c mm A B hk
                rw [HHI2.out] at hk
                have h1 := HSTT.out.2.2.2.2.2.1
                have h2 := HRW.out
                rintro ⟨cnt, hS, g1, g2, g3⟩
                exact ⟨cnt, Sb.rest C A B hk hS, hk.at g1 (by omega), hk.at g2 (by omega), g3⟩
              case restMB =>
                intro c mm x A B hk
                rw [HHI2.out] at hk
                have h1 := HSTT.out.2.2.2.2.2.1
                have h2 := HRW.out
                rintro ⟨cnt, hS, g1, g2, g3⟩
                exact ⟨cnt, Sb.rest C A B hk hS, hk.at g1 (by omega), hk.at g2 (by omega), g3⟩
              case restDB =>
                intro A B hk
                rw [HHI2.out] at hk
                have h1 := HSTT.out.2.2.2.2.2.1
                have h2 := HRW.out
                rintro ⟨F2, hS, g1, g2⟩
                exact ⟨F2, Sb.rest C A B hk hS, hk.at g1 (by omega), hk.at g2 (by omega)⟩
              case restXB => exact fun _ _ _ _ h => h.elim
              case stepB =>
                rintro c mm x c' W0 W1' hsz ⟨cnt, hS, g1, g2, g3, g4, g5⟩ hst
                rw [HHI2.out] at hsz ⊢
                obtain ⟨e1, e2, e3, e4⟩ := Sb.step C hS hsz hst
                have hkk := hst.2.2.2.1
                have hnew := hst.2.2.2.2
                have h1 := HSTT.out.2.2.2.2.2.1
                have h2 := HRW.out
                have h3 := hS.1.sz
                rw [e1] at g4 g5
                refine ⟨⟨cnt, e3, hkk.at g1 g3.1, hkk.at g2 g3.2, ⟨fun e => ?_, fun e => ?_⟩, by simp at g4; omega, by simpa using g5⟩, e4⟩
                · rcases hnew _ e with e | e
                  · exact g3.1 e
                  · omega
                · rcases hnew _ e with e | e
                  · exact g3.2 e
                  · omega
              case lastB =>
                rintro c mm c' W0 W1' hsz ⟨cnt, hS, g1, g2, g3, g4, g5⟩ hst
                rw [HHI2.out]
                have hb := hst.2
                have hnil : c.2 = [] := by
                  cases hc : c.2 with
                  | nil => rfl
                  | cons y M =>
                    have h1 := hst.1 y M hc
                    have h2 := ((C.ge hS.1.xe.rep).ok y (by rw [hc]; simp)).2.2.2
                    omega
                refine ⟨⟨c.1, ?_, ?_, (hb.block _ (Array.getElem?_eq_some_iff.1 g2).1).trans g2⟩, Rf.Lets.keep (Keep.of_below (F := fun _ => False) hb) (fun _ e => e.elim)⟩
                · have := Sb.below C hS hb
                  rwa [hnil] at this
                · rw [hnil] at g4
                  have e : cnt = lp := by simpa using g4
                  rw [e] at g1
                  exact (hb.block _ (Array.getElem?_eq_some_iff.1 g1).1).trans g1
              case bodyB =>
                rintro l'' c mm x W2 ⟨cnt, hS, g1, g2, g3, g4, g5⟩ hsz
                obtain ⟨c9, hc9⟩ : ∃ c9, cnt + 1 = c9 := ⟨_, rfl⟩
                have hcn : ¬ n < c9 := by have := HLPN.out; omega
                have hcl : cnt ≤ 1000 := by have := HLPN.out; have := HN1.out; omega
                have hm0 : W2.cell? ⟨rb, 0, none⟩ = some (nun cnt) := by rw [cell_of_row W2 rb 0 _ _ _ g1]; rfl
                have hm1 : W2.frozen? ⟨rb, 0, none⟩ = false := by simp [World.frozen?, g1]
                have kk := set_keepE W2 rb 0 (nun c9)
                have hr9 := set_oneE (v := nun c9) g1
                have hm2 : (W2.setCell ⟨rb, 0, none⟩ (nun c9)).cell? ⟨rb, 0, none⟩ = some (nun c9) := by rw [cell_of_row _ rb 0 _ _ _ hr9]; rfl
                have h1 := HSTT.out.2.2.2.2.2.1
                have h2 := HSTT.out.2.2.2.2.2.2
                have h3 := HRW.out
                have hS9 : Sb R w w11 p X2 hi2 q0 q1 ab nb ob cb lb now n d c.1 pre c.2 (W2.setCell ⟨rb, 0, none⟩ (nun c9)) := by
                  have hq := HQR.out
                  refine ⟨hS.1.keep C kk (fun k e => ?_), hS.2.1.keep kk (fun k hk e => hq k (.inl hk) e), hS.2.2.1.keep kk (fun k hk e => hq k (.inr hk) e), hS.2.2.2⟩
                  subst e
                  exact ⟨g3.1, h2, by have := HWR.out; omega⟩
                have hm3 := hS9.2.1.cells.2.2.2
                have HG2 : Hid (Rf.Lets X2 w11.heap.size (w11.heap.size + 2 + kk2) W2 (W2.setCell ⟨rb, 0, none⟩ (nun c9)) ∧ ∃ (c : Kn) (j : Nat), j < mm ∧ ∃ cnt : Nat, Sb R w w11 p X2 hi2 q0 q1 ab nb ob cb lb now n d c.1 pre c.2 (W2.setCell ⟨rb, 0, none⟩ (nun c9)) ∧ (W2.setCell ⟨rb, 0, none⟩ (nun c9)).heap[rb]? = some (.cells #[nun cnt] 3) ∧ (W2.setCell ⟨rb, 0, none⟩ (nun c9)).heap[w7.heap.size]? = some (.deferred (some [])) ∧ (¬ c.1 rb ∧ ¬ c.1 w7.heap.size) ∧ cnt + c.2.length = lp ∧ c.2.length = j) :=
                  ⟨Rf.Lets.keep kk (fun k e => ⟨fun hx => h2 (e ▸ hx), by omega⟩), c, c.2.length, by omega, c9, hS9, hr9, kk.at g2 (by omega), g3, by omega, rfl⟩
                have hwr := wrap_next cnt c9 hcl hc9
                have hwr2 := wrap_next2 cnt c9 hcl hc9
                clear hS g1 g2 g3 g4 g5 hsz hc9 hcl kk hr9 h1 h2 h3 hS9
                gi_wp2
                exact HG2.out
              case doneB =>
                rintro W12 ⟨F2, hS, g1, g2⟩ hK2
                obtain ⟨pl, hpl⟩ : ∃ pl, pre.length = pl := ⟨_, rfl⟩
                have hsum : pl + lp = n := by have := HLEN.out; have := HLP.out; omega
                have hwn : wrap64 ((n : Int) - (pl : Int)) = (lp : Int) := wrap_sub n pl lp HN1.out hsum
                have hwn2 : IntKind.i64.wrap ((n : Int) - (pl : Int)) = (lp : Int) := wrap_sub2 n pl lp HN1.out hsum
                have cN2 : Hid (Calls Try.prog 10 #[ptr p] W12 fun e w' => e = .returned (.tuple #[nu 0, .bool false]) ∧ Hid (Below W12.heap.size W12 w')) := by
                  refine (C.next W12 p F2 [] hS.1.xe.rep).mono ?_
                  rintro e w' ⟨rfl, hb⟩
                  exact ⟨rfl, hb⟩
                have HFACT : Hid (∀ wz, Below W12.heap.size W12 wz → wz.cell? ⟨rb, 0, none⟩ = some (nun lp) ∧ wz.cell? ⟨nb, 0, none⟩ = some (nun n) ∧ wz.cell? ⟨cb, 0, none⟩ = some (nun pl) ∧ (wz.cell? ⟨q1, 0, none⟩ = some (.bool false) ∧ wz.frozen? ⟨q1, 0, none⟩ = false) ∧ wz.heap[w7.heap.size]? = some (.deferred (some [])) ∧ wz.heap[w11.heap.size]? = some (.deferred (some [])) ∧ wz.heap[q1]? = some (.cells #[.bool false] 4) ∧ Below w.heap.size w wz) := fun wz hb => by
                  have hS2 := hS.below C hb
                  have r1 := (hb.block _ (Array.getElem?_eq_some_iff.1 g1).1).trans g1
                  have e4 := hS2.2.2.1.cells.1
                  rw [hpl] at e4
                  exact ⟨by rw [cell_of_row wz rb 0 _ _ _ r1]; rfl, hS2.2.1.cells.2.2.2, e4, ⟨hS2.2.1.cells.2.1, hS2.2.1.cells.2.2.1⟩, (hb.block _ (Array.getElem?_eq_some_iff.1 g2).1).trans g2, (hb.block _ (Array.getElem?_eq_some_iff.1 hK2).1).trans hK2, hS2.2.1.e1, hS2.1.xe.bel⟩
                have hgt := (HOK.out.2.symm)
                rw [HLP.out] at hgt
                have hgt := Hid.mk' hgt
                have HW711 : Hid (w7.heap.size < w11.heap.size) := by have h1 := HSTT.out.2.2.2.2.2.1; have h2 := HRW.out; show _ < _; omega
                have HNE : Hid (q1 ≠ w7.heap.size ∧ q1 ≠ w11.heap.size ∧ w.heap.size ≤ q1 ∧ w.heap.size ≤ w7.heap.size ∧ w.heap.size ≤ w11.heap.size) := by
                  have h1 := hS.2.2.2.1 q1 (.inl (.inr (.inl rfl)))
                  have h2 := HSB.out.2.2.2.1 q1 (.inl (.inr (.inl rfl)))
                  have h3 := hS.1.sz0
                  have h4 := HSB.out.1.sz0
                  show _ ∧ _
                  omega
                clear hS g1 g2 hK2 hpl hsum
                go_wp2_with fail
                refine cN2.out.mono ?_
                rintro e w13 ⟨rfl, HB13⟩
                obtain ⟨z1, z2, z3, ⟨z4, z5⟩, z6, z7, z8, z9⟩ := HFACT.out w13 HB13.out
                have HZ6 := Hid.mk' z6
                have HZ7 := Hid.mk' z7
                have HZ8 := Hid.mk' z8
                have HZ9 := Hid.mk' z9
                clear z6 z7 z8 z9 cN2 HFACT HB13
                have hg0 : 0 < lp := of_decide_eq_true hgt.out
                go_wp2
                have hne := HNE.out
                have h711 := HW711.out
                have hf8 : (w13.setCell ⟨q1, 0, none⟩ (.bool true)).heap[q1]? = some (.cells #[.bool true] 4) := set_oneE HZ8.out
                have hkq : Keep (fun k => k = q1) w13 (w13.setCell ⟨q1, 0, none⟩ (.bool true)) := set_keepE w13 q1 0 (.bool true)
                have hA : (w13.setCell ⟨q1, 0, none⟩ (.bool true)).heap[w11.heap.size]? = some (.deferred (some [])) := hkq.at HZ7.out (fun e => hne.2.1 e.symm)
                have hk1 : Keep (fun k => k = w11.heap.size) (w13.setCell ⟨q1, 0, none⟩ (.bool true)) ((w13.setCell ⟨q1, 0, none⟩ (.bool true)).putObj w11.heap.size (.deferred none)) := Rf.keep_put _ _ _ rfl
                have hB : ((w13.setCell ⟨q1, 0, none⟩ (.bool true)).putObj w11.heap.size (.deferred none)).heap[w7.heap.size]? = some (.deferred (some [])) := hk1.at (hkq.at HZ6.out (fun e => hne.1 e.symm)) (by omega)
                have hk2 : Keep (fun k => k = w7.heap.size) ((w13.setCell ⟨q1, 0, none⟩ (.bool true)).putObj w11.heap.size (.deferred none)) (((w13.setCell ⟨q1, 0, none⟩ (.bool true)).putObj w11.heap.size (.deferred none)).putObj w7.heap.size (.deferred none)) := Rf.keep_put _ _ _ rfl
                have hf9 := hk2.at (hk1.at hf8 (fun e => hne.2.1 e)) (fun e => hne.1 e)
                have hall : Keep (fun k => w.heap.size ≤ k) w13 (((w13.setCell ⟨q1, 0, none⟩ (.bool true)).putObj w11.heap.size (.deferred none)).putObj w7.heap.size (.deferred none)) :=
                  ((hkq.weaken (fun k _ e => by show _ ≤ _; omega)).trans hk1 (fun k _ e => by show _ ≤ _; omega)).trans hk2 (fun k _ e => by show _ ≤ _; omega)
                refine ⟨by simp, .inl ⟨_, _, rfl, run_takeDeferred hA, ?_⟩⟩
                refine ⟨by simp, .inl ⟨_, _, rfl, run_takeDeferred hB, ?_⟩⟩
                exact ⟨_, results_bool2 rfl _ _ q1 true rfl (by rw [cell_of_row _ q1 0 _ _ _ hf9]; rfl), rfl, HZ9.out.trans (hall.below (fun k hk e => by omega) HZ9.out.size)⟩
              case stopB => exact fun _ _ h => h.elim
      case stop => exact fun _ _ h => h.elim
    · obtain ⟨jj, rfl⟩ : ∃ jj, j = jj + 1 := ⟨j - 1, by omega⟩
      obtain rfl : i = (jj : Int) := by omega
      have hjI : (0 : Int) ≤ (jj : Int) := by omega
      have hjn : jj ≤ n := by omega
      have hjm : (jj : Int) < (m : Int) := by omega
      have hj32 : (jj : Int) < 32 := by omega
      have hw1 : wrap64 ((jj : Int) + 1) = (jj : Int) + 1 := by unfold wrap64; omega
      have hw2 : wrap64 ((jj : Int) - 1) = (jj : Int) - 1 := by unfold wrap64; omega
      obtain ⟨F, L, hx, hfr, hla, hq⟩ := HS.out
      obtain ⟨gv, ov, rfl, hgl, hcl⟩ := HCL.out (by rw [HM.out]; omega)
      obtain ⟨x, hxl⟩ : ∃ x, l[jj]? = some x := ⟨_, List.getElem?_eq_getElem (by rw [HM.out]; omega)⟩
      have hcx : wr.cell? ⟨gv, ov + jj, none⟩ = some (nu x) := (hx.bel.cell (p := ⟨gv, ov + jj, none⟩) hgl).trans (hcl jj x hxl)
      have hdx : x % 1099511627777 = d jj := by
        rw [← HD.out]
        simp [hxl]
      have cP : Hid (Calls Try.prog 7 #[nu x, nu 1099511627777] wr fun e w' => e = .returned (nu (d jj)) ∧ w' = wr) := by
        have := pickO x 1099511627777 wr (by decide) (by decide) (by have := HI.out x (List.mem_of_getElem? hxl); omega)
        rw [show ((1099511627777 : Nat) : Int) = 1099511627777 from rfl, hdx] at this
        exact this
      have hac := hla.ea.cell (j := jj) (by omega)
      have haf := hla.ea.frozen jj
      have hla2 := hla.put jj (d jj)
      rw [dzE_put jj n d (by omega)] at hla2
      have hac2 := hla2.ea.cell (j := jj) (by omega)
      rw [dzE, if_pos ⟨Nat.le_refl _, by omega⟩] at hac2
      have hk2 := set_keepE wr ab jj (nu (d jj))
      have hqa := hq ab (.inr (.inr (.inl rfl)))
      have hx2 : Xe R w (wr.setCell ⟨ab, jj, none⟩ (nu (d jj))) p F L := hx.keep C hk2 (fun k hk e => hqa.1 (e ▸ hk)) (fun k e => e ▸ hqa.2)
      have hok : okE (ent d jj) := by
        have := HDR.out jj
        unfold okE ent
        dsimp only
        omega
      have cS : Hid (Calls Try.prog 8 #[ptr p, .agg #[nu jj, nu ((jj : Int) + 1)], nu (d jj)] (wr.setCell ⟨ab, jj, none⟩ (nu (d jj))) fun e w' => e = .returned .nilIface ∧ Hid (Sa R w p q0 q1 ab nb now n d jj w')) := by
        refine (C.setYes _ p F L (jj : Int) ((jj : Int) + 1) (d jj) hx2.rep hok).mono ?_
        rintro e w' ⟨rfl, hle⟩
        obtain ⟨G, g1, g2, g3⟩ := hx2.left hle
        refine ⟨rfl, G, _, g1, hfr.set (by omega) hok, hla2.keep g2 (fun k hk => (hq k hk).1), fun k hk => ⟨fun e => ?_, (hq k hk).2⟩⟩
        rcases g3 k e with e | e
        · exact (hq k hk).1 e
        · have := hla2.lt k hk
          omega
      clear HS hx hfr hla hq hgl hcl hxl hdx hla2 hk2 hqa hx2 hok hi hj0 hj
      go_wp2_with fail
      refine cP.out.mono ?_
      rintro e w4 ⟨rfl, hw4⟩
      subst w4
      go_wp2_with fail
      refine cS.out.mono ?_
      rintro e w5 ⟨rfl, HS5⟩
      clear cP cS hac haf hac2 hcx
      go_wp2
      go_roundw
      case rel =>
        exact ⟨jj, _, hjn, rfl, rfl, HS5⟩
      case measure => simp [intOf] <;> omega
end Ex
end Go.Proofs.Ythjdpfmnbmnbhaa
