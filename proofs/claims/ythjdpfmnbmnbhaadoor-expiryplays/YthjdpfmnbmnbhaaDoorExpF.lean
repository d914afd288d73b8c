/- What is due, gone over on the program's side and as the document has it: the law's own loop. -/
import Derived.Test.YthjdpfmnbmnbhaaDoorExpE
namespace Go.Proofs.YthjdpfmnbmnbhaaDoor
set_option linter.ambiguousOpen false
open Go.RowKit
namespace Ex
open Hh Ft
set_option linter.unusedSimpArgs false
set_option linter.unusedVariables false
attribute [local go_sem] Oper.semAt_some

theorem leftX_below {R : RepXT} {w w' : World} {p : Nat} {F : Nat → Prop} {L : List En} (h : R w' p F L) (hb : Below w.heap.size w w') : LeftX R w w' p F L := ⟨F, h, Keep.of_below hb, fun k hk => .inl hk⟩

/-- Both sides set alike. -/
theorem both_set {R : RepXT} (C : ExpiryC R) (base p t : Nat) (L : List En) (s b t1 : Int) : ∃ (z : Nat) (L' : List En), z ≤ 24 ∧
    (∀ wx F1, R wx p F1 L → Calls Tryd.prog 10 #[ptr p, .agg #[nu s, nu b], nu t1] wx fun e w' => e = .returned (errE z) ∧ LeftX R wx w' p F1 L') ∧
    (∀ wx G1, RepE base wx t G1 L → Calls Tryd.prog 11 #[ptr t, .agg #[nu s, nu b], nu t1] wx fun e w' => e = .returned (nun z) ∧ LeftX (RepE base) wx w' t G1 L') := by
  by_cases hx : okE ⟨s, b, t1⟩
  · exact ⟨0, setE L ⟨s, b, t1⟩, by omega, fun wx F1 h => C.setYes wx p F1 L s b t1 h hx, fun wx G1 h => setE_r h s b t1 hx⟩
  · refine ⟨1, L, by omega, fun wx F1 h => ?_, fun wx G1 h => ?_⟩
    · refine (C.setNo wx p F1 L s b t1 h hx).mono ?_
      rintro e w' ⟨rfl, hb⟩
      exact ⟨rfl, leftX_below (C.below h hb) hb⟩
    · refine (setE_no wx t s b t1 hx).mono ?_
      rintro e w' ⟨rfl, hb⟩
      exact ⟨rfl, leftX_below (h.below hb) hb⟩

theorem results_bool1 {fn : Func} {q : Tmp} (h : fn.results = #[.cell q 4]) (tmps : Array Value) (w : World) (g : Nat) (b : Bool) (hp : tmps.getD q undef = .pointer (some ⟨g, 0, none⟩)) (hg : w.cell? ⟨g, 0, none⟩ = some (.bool b)) :
    (results fn tmps).run Tryd.prog w = .ok (.bool b) w := by
  have hl : (loadVar 4 ⟨g, 0, none⟩).run Tryd.prog w = .ok (.bool b) w := by
    simp [loadVar, go_sem, hg]
  have hp' : tmps[q]?.getD undef = .pointer (some ⟨g, 0, none⟩) := by simpa using hp
  simp [results, h, hp', asAddr, hl]

set_option maxRecDepth 1000000 in
set_option maxHeartbeats 16000000 in
theorem due_any {R : RepXT} (C : ExpiryC R) (base : Nat) (w0 w : World) (p t : Nat) (F G : Nat → Prop) (L : List En) (k at1 n ls lb : Int) (most : Nat) (put : Bool) (h : Bd R base w0 w w p t F G F G L L) (hm : 1 ≤ most ∧ most ≤ 1000) (hE : Er.Handle w0) :
    Calls Tryd.prog 14 #[ptr p, ptr t, .agg #[nu k, nu at1, nu n, nu ls, nu lb], nun most, .bool put] w fun e w' => e = .returned (.bool true) ∧ ∃ F' G' L', Bd R base w0 w w' p t F G F' G' L' L' := by
  obtain ⟨a0, ha0⟩ : ∃ a0, w.heap.size = a0 := ⟨_, rfl⟩
  obtain ⟨b1, hb1⟩ : ∃ b1, a0 + 1 = b1 := ⟨_, rfl⟩
  obtain ⟨b2, hb2⟩ : ∃ b2, b1 + 1 = b2 := ⟨_, rfl⟩
  obtain ⟨b3, hb3⟩ : ∃ b3, b2 + 1 = b3 := ⟨_, rfl⟩
  obtain ⟨b4, hb4⟩ : ∃ b4, b3 + 1 = b4 := ⟨_, rfl⟩
  obtain ⟨b5, hb5⟩ : ∃ b5, b4 + 1 = b5 := ⟨_, rfl⟩
  obtain ⟨b6, hb6⟩ : ∃ b6, b5 + 1 = b6 := ⟨_, rfl⟩
  obtain ⟨W2, hW2⟩ : ∃ W2, ((((((w.alloc (.cells #[ptr p] 23)).alloc (.cells #[ptr t] 25)).alloc (.cells #[nu k, nu at1, nu n, nu ls, nu lb] 33)).alloc (.cells #[nun most] 3)).alloc (.cells #[.bool put] 4)).alloc (.cells #[.bool false] 4)).alloc (.cells #[.int .i64 0] 3) = W2 := ⟨_, rfl⟩
  obtain ⟨⟨f0, f1, f2, f3, f4, f5, f6⟩, s2, hB2⟩ := seven w _ _ _ _ _ _ _ W2 hW2
  rw [ha0] at f0 f1 f2 f3 f4 f5 f6 s2
  have hd2 : Dx W2 a0 b1 b2 b3 b4 b5 b6 p t k at1 n ls lb most put 0 := by
    subst hb6 hb5 hb4 hb3 hb2 hb1
    exact ⟨f0, f1, f2, f3, f4, f5, f6, by omega⟩
  have hbd2 := h.below C hB2
  have c1 : Hid (Calls Tryd.prog 25 #[ptr p, nu at1] W2 fun e w' => ∃ gf lb, e = .returned (.func (.func gf) #[] lb) ∧ Hid (Below W2.heap.size W2 w')) := by
    refine (hbd2.xe.due C at1).mono ?_
    rintro e w' ⟨gf, lb, rfl, hq⟩
    exact ⟨gf, lb, rfl, hq.out.2.1⟩
  have c2 : Hid (∀ wx, Below W2.heap.size W2 wx → Calls Tryd.prog 25 #[ptr p, nu at1] wx fun e w' => ∃ gf lb, e = .returned (.func (.func gf) #[] lb) ∧ Hid (Below wx.heap.size wx w' ∧ ∃ X, IterX R w' (.func (.func gf) #[] lb) X p at1 ∧ ∀ b, X b → wx.heap.size ≤ b)) := fun wx hb => by
    refine ((hbd2.xe.below C hb).due C at1).mono ?_
    rintro e w' ⟨gf, lb, rfl, hq⟩
    exact ⟨gf, lb, rfl, hq.out.2.1, hq.out.2.2⟩
  have HBD2 := Hid.mk' hbd2
  have HD2 := Hid.mk' hd2
  have HA0 := Hid.mk' ha0
  have HB1 := Hid.mk' hb1
  have HB2 := Hid.mk' hb2
  have HB3 := Hid.mk' hb3
  have HB4 := Hid.mk' hb4
  have HB5 := Hid.mk' hb5
  have HB6 := Hid.mk' hb6
  have HW2 := Hid.mk' hW2
  have HS2 := Hid.mk' s2
  have HH := Hid.mk' h
  have HE := Hid.mk' hE
  have HC := Hid.mk' C
  have HM := Hid.mk' hm
  obtain ⟨x0, x1, x2, _⟩ := hd2.cells
  clear f0 f1 f2 f3 f4 f5 f6 s2 hB2 hd2 hbd2 ha0 hb1 hb2 hb3 hb4 hb5 hb6 hW2 h hE hm
  refine (callsIn_wide (n := 8)).1 ?_
  refine callsIn_of_wp_marks Tryd.func14 rfl trivial ?_ rfl
  refine wpIn_wide.2 ?_
  simp only [Tryd.ntmps14, List.size_toArray, List.length_cons, List.length_nil, Nat.reduceAdd, Nat.reduceSub, Array.replicate_succ, Array.replicate_zero, List.push_toArray, List.append_toArray, List.nil_append, List.cons_append]
  go_upto_region 2 with fail
  rw [HA0.out, HB1.out, HB2.out, HB3.out, HB4.out, HB5.out, HB6.out, HW2.out]
  go_wp2_with fail
  refine c1.out.mono ?_
  rintro e w3 ⟨gf0, lb0, rfl, HQ3⟩
  have hnil := iter_eq_nil gf0 lb0 w3
  obtain ⟨y0, y1, y2, _⟩ := (HD2.out.below HQ3.out).cells
  have c2' := Hid.mk' (c2.out w3 HQ3.out)
  clear c1 c2 x0 x1 x2
  go_wp2_with fail
  refine c2'.out.mono ?_
  rintro e w4 ⟨gf, lb', rfl, HQ4⟩
  clear c2' y0 y1 y2 hnil
  obtain ⟨hb4, X, hit, hXn⟩ := HQ4.out
  obtain ⟨gf', lb2, kk, e9, hent, hXl, hsq⟩ := hit
  simp only [Value.func.injEq, Fn.func.injEq, true_and] at e9
  obtain ⟨rfl, rfl⟩ := e9
  have hB4 : Below W2.heap.size W2 w4 := HQ3.out.trans (hb4.mono HQ3.out.size)
  have hbd4 : Bd R base w0 w w4 p t F G F G L L := HBD2.out.below C hB4
  have hlb4 : a0 + 7 ≤ w4.heap.size := by have := hB4.size; have := HS2.out; omega
  have hXa : ∀ j, X j → a0 + 7 ≤ j := fun j hj => by have := hXn j hj; have := HQ3.out.size; have := HS2.out; omega
  obtain ⟨hi, hhi⟩ : ∃ hi, w4.heap.size + 2 + kk = hi := ⟨_, rfl⟩
  have hAm : Amid R base w0 w w4 p t F G X hi a0 b1 b2 b3 b4 b5 b6 k at1 n ls lb most put 0 F G L L w4 := by
    have hFl : ∀ j, F j → j < a0 := fun j hj => by have := C.lt HH.out.xe.rep j hj; have := HA0.out; omega
    have hGl : ∀ j, G j → j < a0 := fun j hj => by have := (HH.out.ref.lt j hj).2; have := HA0.out; omega
    have hw0 := HH.out.xe.bel.size
    refine ⟨⟨hbd4, Lp.start C hbd4.xe (fun j hj => ⟨hXl j hj, fun e => ?_, ?_⟩), fun j hj => ⟨fun e => ?_, fun e => ?_⟩, ?_⟩, HD2.out.below hB4, fun j hj => ?_, hXa, hlb4, Nat.le_of_eq HA0.out⟩
    · have := hFl j e; have := hXa j hj; omega
    · have := hXa j hj; have := HA0.out; omega
    · have := hGl j hj; have := hXa j e; omega
    · have := hGl j hj; omega
    · have := HA0.out; omega
    · rcases hj with hj | hj
      · have := hFl j hj; omega
      · have := hGl j hj; omega
  have HAM := Hid.mk' hAm
  have HHI := Hid.mk' hhi
  have HXL := Hid.mk' hXl
  have HSQ := Hid.mk' hsq
  have HL4 := Hid.mk' hlb4
  have HFIN : Hid (∀ (W : World) (F' G' : Nat → Prop) (L' : List En), Lq R base w0 w w4 p t F G X hi F' G' L' L' W → W.heap[b5]? = some (.cells #[.bool true] 4) → (W.putObj w4.heap.size (.deferred none)).cell? ⟨b5, 0, none⟩ = some (.bool true) ∧ ∃ F' G' L', Bd R base w0 w (W.putObj w4.heap.size (.deferred none)) p t F G F' G' L' L') := fun W F' G' L' hA h5 => by
    have := HB1.out; have := HB2.out; have := HB3.out; have := HB4.out; have := HB5.out; have := HA0.out
    have hk : Keep (fun j => j = w4.heap.size) W (W.putObj w4.heap.size (.deferred none)) := Rf.keep_put _ _ _ rfl
    refine ⟨by rw [cell_of_row _ b5 0 _ _ _ (hk.at h5 (by omega))]; rfl, F', G', L', hA.bd.keep C hk (fun j e => ?_)⟩
    subst e
    exact ⟨fun e => (hA.lp.off _ e).2 ⟨Nat.le_refl _, by omega⟩, fun e => (hA.goff _ e).2 ⟨Nat.le_refl _, by omega⟩, by omega⟩
  clear hXa hXn hb4 hB4 hbd4 hAm HBD2 HD2 HQ3 HQ4 hhi hsq hlb4
  go_wp2_with fail
  refine Rf.wp_rangeN rfl hent HSQ.out (fun _ => rfl) HXL.out
    (fun c m W' => ∃ G' cnt, Amid R base w0 w w4 p t F G X hi a0 b1 b2 b3 b4 b5 b6 k at1 n ls lb most put cnt c.1 G' c.2 c.2 W' ∧ cnt + m = most)
    (fun c m x W' => ∃ G' cnt, Amid R base w0 w w4 p t F G X hi a0 b1 b2 b3 b4 b5 b6 k at1 n ls lb most put cnt c.1 G' c.2 (x :: c.2) W' ∧ x.t ≤ at1 ∧ cnt + m = most)
    (fun c m x a' W' => ∃ xb, a' = { tmps := #[ptr p, ptr t, .agg #[nu k, nu at1, nu n, nu ls, nu lb], nun most, .bool put, .pointer (some ⟨a0, 0, none⟩), .pointer (some ⟨b1, 0, none⟩), .pointer (some ⟨b2, 0, none⟩), .pointer (some ⟨b3, 0, none⟩), .pointer (some ⟨b4, 0, none⟩), .pointer (some ⟨b5, 0, none⟩), .pointer (some ⟨b6, 0, none⟩), .pointer (some ⟨xb, 0, none⟩), undef, undef, undef, undef, ptr p, .pointer (some ⟨b2, 1, none⟩), nu at1, .func (.func gf0) #[] lb0, .bool false, ptr p, .pointer (some ⟨b2, 1, none⟩), nu at1, .func (.func gf) #[] lb', .agg #[nu x.s, nu x.b], undef, undef, undef, undef, undef, undef, undef, undef, undef, undef, undef, undef, undef, undef, undef, undef, undef, undef, undef, undef, undef, undef, undef, undef, undef, undef, undef, undef, undef, undef, undef, undef, undef, undef, undef, undef, undef, undef, undef, undef, undef, undef, undef, undef, undef, undef, undef, undef, undef], defers := [] } ∧ W'.heap[xb]? = some (.cells #[nu x.s, nu x.b] 31) ∧ hi ≤ xb ∧ ∃ G' cnt, Amid R base w0 w w4 p t F G X hi a0 b1 b2 b3 b4 b5 b6 k at1 n ls lb most put cnt c.1 G' c.2 (x :: c.2) W' ∧ x.t ≤ at1 ∧ cnt + m = most ∧ ¬ c.1 xb ∧ ¬ G' xb)
    (fun W' => ∃ F' G' L' cnt, Amid R base w0 w w4 p t F G X hi a0 b1 b2 b3 b4 b5 b6 k at1 n ls lb most put cnt F' G' L' L' W' ∧ (∀ x M, L' = x :: M → at1 < x.t))
    (fun cd W' => cd = .ret ∧ W'.heap[b5]? = some (.cells #[.bool true] 4) ∧ ∃ F' G' L', Lq R base w0 w w4 p t F G X hi F' G' L' L' W')
    most ((F, L) : Kn) ?ready ?foot ?restI ?restM ?restD ?restX ?step ?last ⟨G, 0, HAM.out, by omega⟩ ?assign ?body ?done ?stop
  case ready =>
    rintro c m W' ⟨G', cnt, hA, _⟩
    exact hA.1.lp.ready
  case foot =>
    rintro c m W' ⟨G', cnt, hA, _⟩ b hb
    rw [HHI.out]
    exact (hA.1.lp.off b hb).2
  case restI =>
    intro c m A B hk
    rw [HHI.out] at hk
    rintro ⟨G', cnt, hA, hc⟩
    exact ⟨G', cnt, Amid.rest C A B hk hA, hc⟩
  case restM =>
    intro c m x a' A B hk
    rw [HHI.out] at hk
    rintro ⟨xb, h1, h2, h3, G', cnt, hA, h4⟩
    exact ⟨xb, h1, hk.at h2 (by omega), h3, G', cnt, Amid.rest C A B hk hA, h4⟩
  case restD =>
    intro A B hk
    rw [HHI.out] at hk
    rintro ⟨F', G', L', cnt, hA, hx⟩
    exact ⟨F', G', L', cnt, Amid.rest C A B hk hA, hx⟩
  case restX =>
    intro cd A B hk
    rw [HHI.out] at hk
    rintro ⟨h1, h2, F', G', L', hA⟩
    have := HB1.out; have := HB2.out; have := HB3.out; have := HB4.out; have := HB5.out; have := HL4.out
    exact ⟨h1, hk.at h2 (by omega), F', G', L', Lq.rest C A B hk hA⟩
  case step =>
    rintro c m x c' W0 W1 hsz ⟨G', cnt, hA, hc⟩ hst
    rw [HHI.out] at hsz ⊢
    obtain ⟨e1, e2, e3, e4⟩ := Amid.step C hA hsz hst
    rw [e1] at e3
    exact ⟨⟨G', cnt, e3, e2, hc⟩, e4⟩
  case last =>
    rintro c m c' W0 W1 hsz ⟨G', cnt, hA, hc⟩ hst
    rw [HHI.out]
    exact ⟨⟨c.1, G', c.2, cnt, Amid.below C hA hst.2, hst.1⟩, Rf.Lets.keep (Keep.of_below (F := fun _ => False) hst.2) (fun _ e => e.elim)⟩
  case assign =>
    rintro l' c m x W' K ⟨G', cnt, hA, ht, hc⟩ hsz hK
    have HAA := Hid.mk' hA
    have HT := Hid.mk' ht
    clear hA ht
    obtain ⟨xb, hxb⟩ : ∃ xb, W'.heap.size = xb := ⟨_, rfl⟩
    obtain ⟨Wz, hWz⟩ : ∃ Wz, W'.alloc (.cells #[nu 0, nu 0] 31) = Wz := ⟨_, rfl⟩
    have hz : Wz.heap[xb]? = some (.cells #[nu 0, nu 0] 31) := by rw [← hWz, ← hxb]; exact heap_alloc_new _ _
    have hkz : Keep (fun _ => False) W' Wz := by rw [← hWz]; exact (Keep.refl _ _).alloc _
    have HZ := Hid.mk' hz
    have HXB := Hid.mk' hxb
    have HWZ := Hid.mk' hWz
    have HKZ := Hid.mk' hkz
    have HSZ := Hid.mk' hsz
    have HK := Hid.mk' hK
    clear hz hxb hWz hkz hsz hK
    gi_wp2_with (first | (rw [HWZ.out, HXB.out]; refine wpListIn_store_lnk rfl _ _ rfl xb rfl _ _ rfl _ _ HZ.out ?_; intro w8 hl8 hg8 hs8; have HL8 := Hid.mk' hl8; have HG8 := Hid.mk' hg8; clear hl8 hg8 hs8) | fail)
    have hk8 : Keep (fun _ => False) W' w8 := HKZ.out.grown HG8.out (fun j e => .inr (by injection e with e; have := HXB.out; omega))
    have hlt : ∀ j, c.1 j → j < xb := fun j hj => by have := C.lt HAA.out.1.bd.xe.rep j hj; have := HXB.out; omega
    have hgt : ∀ j, G' j → j < xb := fun j hj => by have := (HAA.out.1.bd.ref.lt j hj).2; have := HXB.out; omega
    refine HK.out _ _ (Rf.Lets.keep hk8 (fun _ e => e.elim)) ⟨xb, rfl, HL8.out, ?_, G', cnt, HAA.out.keep C hk8 (fun _ e => e.elim), HT.out, hc, fun e => ?_, fun e => ?_⟩
    · have := HSZ.out; have := HHI.out; have := HXB.out; omega
    · have := hlt _ e; omega
    · have := hgt _ e; omega
  case body =>
    rintro l' c m x a' W5 ⟨xb, rfl, hlx, hhx, G1, cnt, hA, ht, hc, hn1, hn2⟩ hsz
    rw [HHI.out] at hsz
    obtain ⟨F1, L1⟩ := c
    obtain ⟨xs, xbi, xt⟩ := x
    dsimp only at hlx hA ht hn1 ⊢
    obtain ⟨v0, v1, v2, _⟩ := hA.2.1.cells
    have cD : Hid (Calls Tryd.prog 26 #[ptr t, nu at1] W5 fun e w9 => e = .returned (.tuple #[.agg #[nu xs, nu xbi], .bool true]) ∧ Hid (∃ G2, Amid R base w0 w w4 p t F G X hi a0 b1 b2 b3 b4 b5 b6 k at1 n ls lb most put cnt F1 G2 L1 L1 w9 ∧ w9.heap[xb]? = some (.cells #[nu xs, nu xbi] 31) ∧ Rf.Lets X w4.heap.size hi W5 w9)) := by
      refine (dueE_r hA.1.bd.ref at1 ht).mono ?_
      rintro e w9 ⟨rfl, hle⟩
      obtain ⟨G2, g1, g2⟩ := Amid.turn2 C hA hsz hle
      exact ⟨rfl, G2, g1, g2.at hlx hn2, Rf.Lets.keep g2 (fun j hj => hA.1.goff j hj)⟩
    have HC' := Hid.mk' hc
    have HSW := Hid.mk' hsz
    clear hlx hA ht hn1 hn2 hhx hsz hc
    gi_wp2_with fail
    refine ⟨trivial, CallsIn.inRound l' (callsIn_wide.2 cD.out) |>.mono ?_⟩
    rintro e w9 ⟨rfl, HQ9⟩
    clear cD v0 v1 v2
    obtain ⟨G2, hA9, hl9, hle9⟩ := HQ9.out
    obtain ⟨yb, hyb⟩ : ∃ yb, w9.heap.size = yb := ⟨_, rfl⟩
    obtain ⟨Wz, hWz⟩ : ∃ Wz, w9.alloc (.cells #[nu 0, nu 0] 31) = Wz := ⟨_, rfl⟩
    have hz : Wz.heap[yb]? = some (.cells #[nu 0, nu 0] 31) := by rw [← hWz, ← hyb]; exact heap_alloc_new _ _
    have hkz : Keep (fun _ => False) w9 Wz := by rw [← hWz]; exact (Keep.refl _ _).alloc _
    have HZ := Hid.mk' hz
    have HYB := Hid.mk' hyb
    have HWZ := Hid.mk' hWz
    have H10 : Hid (∀ w10, Wz.grownBy w10 (some yb) → Amid R base w0 w w4 p t F G X hi a0 b1 b2 b3 b4 b5 b6 k at1 n ls lb most put cnt F1 G2 L1 L1 w10 ∧ w10.heap[xb]? = some (.cells #[nu xs, nu xbi] 31) ∧ Rf.Lets X w4.heap.size hi W5 w10 ∧ hi ≤ w10.heap.size) := fun w10 hg => by
      have hk10 : Keep (fun _ => False) w9 w10 := hkz.grown hg (fun j e => .inr (by injection e with e; omega))
      exact ⟨hA9.keep C hk10 (fun _ e => e.elim), hk10.at hl9 (fun e => e), hle9.trans (Rf.Lets.keep hk10 (fun _ e => e.elim)), by have := hle9.size; have := hk10.size; have := HSW.out; omega⟩
    clear hz hyb hWz hkz hA9 hl9 hle9 HQ9
    have hnq := neq_link xs xbi
    gi_wp2_with (first | (rw [HWZ.out, HYB.out]; refine wpListIn_store_lnk rfl _ _ rfl yb rfl _ _ rfl _ _ HZ.out ?_; intro w10 hl10 hg10 hs10; have HL10 := Hid.mk' hl10; have HG10 := Hid.mk' hg10; obtain ⟨r0, r1⟩ := link_cells hl10; obtain ⟨r2, r3⟩ := link_cells (H10.out w10 hg10).2.1; clear hl10 hg10 hs10) | fail)
    obtain ⟨hA10, _, hle10, hs10⟩ := H10.out w10 HG10.out
    have HS9 : Hid (w10.drew.cell? ⟨a0, 0, none⟩ = some (ptr p) ∧ w10.drew.cell? ⟨b1, 0, none⟩ = some (ptr t) ∧ w10.drew.cell? ⟨b2, 2, none⟩ = some (nu n) ∧ w10.drew.cell? ⟨b4, 0, none⟩ = some (.bool put) ∧ w10.drew.cell? ⟨b6, 0, none⟩ = some (nun cnt) ∧ w10.drew.rangeAt b2 3 [nu ls, nu lb]) := hA10.2.1.put9
    have HA10 : Hid (Amid R base w0 w w4 p t F G X hi a0 b1 b2 b3 b4 b5 b6 k at1 n ls lb most put cnt F1 G2 L1 L1 w10.drew) := hA10.keep C (Keep.refl (fun _ => False) w10).drew (fun _ e => e.elim)
    have HLE10 : Hid (Rf.Lets X w4.heap.size hi W5 w10.drew) := hle10.trans (Rf.Lets.keep (Keep.refl (fun _ => False) w10).drew (fun _ e => e.elim))
    have HS10 : Hid (hi ≤ w10.drew.heap.size) := hs10
    clear hA10 hle10 hs10 r0 r1 r2 r3 HL10 HG10 H10 HZ HYB HWZ hnq
    obtain ⟨c9, hc9⟩ : ∃ c9 : Nat, cnt + 1 = c9 := ⟨_, rfl⟩
    have hcm := HC'.out
    have hmm := HM.out
    have hwr : IntKind.i64.wrap ((cnt : Int) + 1) = (c9 : Int) := by rw [IntKind.wrap_i64]; omega
    have HCNT : Hid (∀ wz F2 G2 L2, Amid R base w0 w w4 p t F G X hi a0 b1 b2 b3 b4 b5 b6 k at1 n ls lb most put cnt F2 G2 L2 L2 wz → wz.cell? ⟨b6, 0, none⟩ = some (nun cnt) ∧ wz.frozen? ⟨b6, 0, none⟩ = false ∧ (wz.setCell ⟨b6, 0, none⟩ (nun c9)).cell? ⟨b6, 0, none⟩ = some (nun c9) ∧ (wz.setCell ⟨b6, 0, none⟩ (nun c9)).cell? ⟨b3, 0, none⟩ = some (nun most) ∧ (wz.setCell ⟨b6, 0, none⟩ (nun c9)).cell? ⟨b5, 0, none⟩ = some (.bool false) ∧ (wz.setCell ⟨b6, 0, none⟩ (nun c9)).frozen? ⟨b5, 0, none⟩ = false) := fun wz F2 G2 L2 hA => by
      obtain ⟨_, _, _, _, _, _, _, q6, _, q7⟩ := hA.2.1.cells
      obtain ⟨_, _, _, _, r3, _, r5, r6, r7, _⟩ := (Amid.count C hA).2.1.cells
      rw [hc9] at r3 r5 r6 r7
      exact ⟨q6, q7, r6, r3, r5, r7⟩
    have HNORM : Hid (c9 < most → ∀ wz F2 G2 L2, Amid R base w0 w w4 p t F G X hi a0 b1 b2 b3 b4 b5 b6 k at1 n ls lb most put cnt F2 G2 L2 L2 wz → Rf.Lets X w4.heap.size hi W5 wz → Rf.Lets X w4.heap.size (w4.heap.size + 2 + kk) W5 (wz.setCell ⟨b6, 0, none⟩ (nun c9)) ∧ ∃ (c : Kn) (j : Nat), j < m ∧ ∃ G' cnt', Amid R base w0 w w4 p t F G X hi a0 b1 b2 b3 b4 b5 b6 k at1 n ls lb most put cnt' c.1 G' c.2 c.2 (wz.setCell ⟨b6, 0, none⟩ (nun c9)) ∧ cnt' + j = most) := fun hl wz F2 G2 L2 hA hle => by
      have hA2 := Amid.count C hA
      rw [hc9] at hA2
      rw [HHI.out]
      have hn := hA.ne (j := b6) (by have := hA.2.1.eb; omega)
      refine ⟨hle.trans (Rf.Lets.keep (F := fun j => j = b6) ((Keep.refl (fun j => j = b6) wz).setCell (p := ⟨b6, 0, none⟩) (.inl rfl) _) (fun j e => ?_)), ((F2, L2) : Kn), m - 1, by omega, G2, c9, hA2, by omega⟩
      have := hA.2.1.eb; have := HL4.out
      exact ⟨e ▸ hn.2.2, by omega⟩
    have HRET : Hid (∀ wz F2 G2 L2, Amid R base w0 w w4 p t F G X hi a0 b1 b2 b3 b4 b5 b6 k at1 n ls lb most put cnt F2 G2 L2 L2 wz → Rf.Lets X w4.heap.size hi W5 wz → Rf.Lets X w4.heap.size (w4.heap.size + 2 + kk) W5 ((wz.setCell ⟨b6, 0, none⟩ (nun c9)).setCell ⟨b5, 0, none⟩ (.bool true)) ∧ ((wz.setCell ⟨b6, 0, none⟩ (nun c9)).setCell ⟨b5, 0, none⟩ (.bool true)).heap[b5]? = some (.cells #[.bool true] 4) ∧ ∃ F' G' L', Lq R base w0 w w4 p t F G X hi F' G' L' L' ((wz.setCell ⟨b6, 0, none⟩ (nun c9)).setCell ⟨b5, 0, none⟩ (.bool true))) := fun wz F2 G2 L2 hA hle => by
      have hA2 := Amid.count C hA
      rw [hc9] at hA2
      obtain ⟨h1, h2⟩ := Amid.told C hA2
      rw [HHI.out]
      have hn := hA.ne (j := b6) (by have := hA.2.1.eb; omega)
      have hn5 := hA.ne (j := b5) (by have := hA.2.1.eb; omega)
      have k1 : Keep (fun j => j = b6 ∨ j = b5) wz ((wz.setCell ⟨b6, 0, none⟩ (nun c9)).setCell ⟨b5, 0, none⟩ (.bool true)) := ((Keep.refl (fun j => j = b6 ∨ j = b5) wz).setCell (p := ⟨b6, 0, none⟩) (.inl (.inl rfl)) _).setCell (p := ⟨b5, 0, none⟩) (.inl (.inr rfl)) _
      refine ⟨hle.trans (Rf.Lets.keep k1 (fun j e => ?_)), h2, F2, G2, L2, h1⟩
      have := hA.2.1.eb; have := HL4.out
      rcases e with e | e
      · exact ⟨e ▸ hn.2.2, by omega⟩
      · exact ⟨e ▸ hn5.2.2, by omega⟩
    have HLAST : Hid (c9 < most ∨ most ≤ c9) := by show _ ∨ _; omega
    have HC9 := Hid.mk' hc9
    clear hc9 hcm hmm
    cases put with
    | false =>
      refine Rn.region_calls (S := fun w' => (w'.cell? ⟨a0, 0, none⟩ = some (ptr p) ∧ w'.cell? ⟨b1, 0, none⟩ = some (ptr t) ∧ w'.cell? ⟨b2, 2, none⟩ = some (nu n) ∧ w'.cell? ⟨b4, 0, none⟩ = some (.bool false) ∧ w'.cell? ⟨b6, 0, none⟩ = some (nun cnt) ∧ w'.rangeAt b2 3 [nu ls, nu lb])) (fun _ _ h => h) (by kernel_rfl) (by kernel_rfl) HS9.out (fun hHeld => ?_)
      refine wpAnyH_take (i := 0) (v := ?_) rfl (by kernel_rfl) (by kernel_rfl) (by kernel_rfl) (fun _ _ _ h => h) (Or.inl ⟨by rfl, ?_⟩) hHeld ?_
      rotate_left
      · (intro w' hS'; have hq0 := hS'.1; have hq1 := hS'.2.1; have hq2 := hS'.2.2.1; have hq3 := hS'.2.2.2.1; have hq4 := hS'.2.2.2.2.1; go_simp <;> with_reducible rfl)
      simp only [Act.put, List.getElem_toArray, List.getElem_cons_succ, List.getElem_cons_zero, List.setIfInBounds_toArray, List.set]
      refine wpAnyH_take (i := 1) (v := ?_) rfl (by kernel_rfl) (by kernel_rfl) (by kernel_rfl) (fun _ _ _ h => h) (Or.inl ⟨by rfl, ?_⟩) hHeld ?_
      rotate_left
      · (intro w' hS'; go_simp <;> with_reducible rfl)
      simp only [Act.put, List.getElem_toArray, List.getElem_cons_succ, List.getElem_cons_zero, List.setIfInBounds_toArray, List.set]
      refine wpAnyH_take (i := 2) (v := undef) rfl (by kernel_rfl) (by kernel_rfl) (by kernel_rfl) (fun _ _ _ h => h) (Or.inr ⟨by rfl, rfl⟩) hHeld ?_
      simp only [Act.put, List.getElem_toArray, List.getElem_cons_succ, List.getElem_cons_zero, List.setIfInBounds_toArray, List.set]
      refine wpAnyH_take (i := 3) (v := undef) rfl (by kernel_rfl) (by kernel_rfl) (by kernel_rfl) (fun _ _ _ h => h) (Or.inr ⟨by rfl, rfl⟩) hHeld ?_
      simp only [Act.put, List.getElem_toArray, List.getElem_cons_succ, List.getElem_cons_zero, List.setIfInBounds_toArray, List.set]
      refine wpAnyH_take (i := 4) (v := ?_) rfl (by kernel_rfl) (by kernel_rfl) (by kernel_rfl) (fun _ _ _ h => h) (Or.inl ⟨by rfl, ?_⟩) hHeld ?_
      rotate_left
      · (intro w' hS'; go_simp <;> with_reducible rfl)
      simp only [Act.put, List.getElem_toArray, List.getElem_cons_succ, List.getElem_cons_zero, List.setIfInBounds_toArray, List.set]
      refine wpAnyH_take (i := 5) (v := ?_) rfl (by kernel_rfl) (by kernel_rfl) (by kernel_rfl) (fun _ _ _ h => h) (Or.inl ⟨by rfl, ?_⟩) hHeld ?_
      rotate_left
      · (intro w' hS'; go_simp <;> with_reducible rfl)
      simp only [Act.put, List.getElem_toArray, List.getElem_cons_succ, List.getElem_cons_zero, List.setIfInBounds_toArray, List.set]
      refine wpAnyH_take (i := 6) (v := undef) rfl (by kernel_rfl) (by kernel_rfl) (by kernel_rfl) (fun _ _ _ h => h) (Or.inr ⟨by rfl, rfl⟩) hHeld ?_
      simp only [Act.put, List.getElem_toArray, List.getElem_cons_succ, List.getElem_cons_zero, List.setIfInBounds_toArray, List.set]
      refine wpAnyH_take (i := 7) (v := undef) rfl (by kernel_rfl) (by kernel_rfl) (by kernel_rfl) (fun _ _ _ h => h) (Or.inr ⟨by rfl, rfl⟩) hHeld ?_
      simp only [Act.put, List.getElem_toArray, List.getElem_cons_succ, List.getElem_cons_zero, List.setIfInBounds_toArray, List.set]
      refine wpAnyH_take (i := 8) (v := undef) rfl (by kernel_rfl) (by kernel_rfl) (by kernel_rfl) (fun _ _ _ h => h) (Or.inr ⟨by rfl, rfl⟩) hHeld ?_
      simp only [Act.put, List.getElem_toArray, List.getElem_cons_succ, List.getElem_cons_zero, List.setIfInBounds_toArray, List.set]
      refine wpAnyH_take (i := 9) (v := undef) rfl (by kernel_rfl) (by kernel_rfl) (by kernel_rfl) (fun _ _ _ h => h) (Or.inr ⟨by rfl, rfl⟩) hHeld ?_
      simp only [Act.put, List.getElem_toArray, List.getElem_cons_succ, List.getElem_cons_zero, List.setIfInBounds_toArray, List.set]
      refine wpAnyH_take (i := 10) (v := undef) rfl (by kernel_rfl) (by kernel_rfl) (by kernel_rfl) (fun _ _ _ h => h) (Or.inr ⟨by rfl, rfl⟩) hHeld ?_
      simp only [Act.put, List.getElem_toArray, List.getElem_cons_succ, List.getElem_cons_zero, List.setIfInBounds_toArray, List.set]
      refine wpAnyH_take (i := 11) (v := undef) rfl (by kernel_rfl) (by kernel_rfl) (by kernel_rfl) (fun _ _ _ h => h) (Or.inr ⟨by rfl, rfl⟩) hHeld ?_
      simp only [Act.put, List.getElem_toArray, List.getElem_cons_succ, List.getElem_cons_zero, List.setIfInBounds_toArray, List.set]
      refine wpAnyH_take (i := 12) (v := undef) rfl (by kernel_rfl) (by kernel_rfl) (by kernel_rfl) (fun _ _ _ h => h) (Or.inr ⟨by rfl, rfl⟩) hHeld ?_
      simp only [Act.put, List.getElem_toArray, List.getElem_cons_succ, List.getElem_cons_zero, List.setIfInBounds_toArray, List.set]
      refine wpAnyH_take (i := 13) (v := undef) rfl (by kernel_rfl) (by kernel_rfl) (by kernel_rfl) (fun _ _ _ h => h) (Or.inr ⟨by rfl, rfl⟩) hHeld ?_
      simp only [Act.put, List.getElem_toArray, List.getElem_cons_succ, List.getElem_cons_zero, List.setIfInBounds_toArray, List.set]
      refine wpAnyH_take (i := 14) (v := undef) rfl (by kernel_rfl) (by kernel_rfl) (by kernel_rfl) (fun _ _ _ h => h) (Or.inr ⟨by rfl, rfl⟩) hHeld ?_
      simp only [Act.put, List.getElem_toArray, List.getElem_cons_succ, List.getElem_cons_zero, List.setIfInBounds_toArray, List.set]
      refine wpAnyH_take (i := 15) (v := undef) rfl (by kernel_rfl) (by kernel_rfl) (by kernel_rfl) (fun _ _ _ h => h) (Or.inr ⟨by rfl, rfl⟩) hHeld ?_
      simp only [Act.put, List.getElem_toArray, List.getElem_cons_succ, List.getElem_cons_zero, List.setIfInBounds_toArray, List.set]
      refine wpAnyH_take (i := 16) (v := undef) rfl (by kernel_rfl) (by kernel_rfl) (by kernel_rfl) (fun _ _ _ h => h) (Or.inr ⟨by rfl, rfl⟩) hHeld ?_
      simp only [Act.put, List.getElem_toArray, List.getElem_cons_succ, List.getElem_cons_zero, List.setIfInBounds_toArray, List.set]
      refine wpAnyH_take (i := 17) (v := undef) rfl (by kernel_rfl) (by kernel_rfl) (by kernel_rfl) (fun _ _ _ h => h) (Or.inr ⟨by rfl, rfl⟩) hHeld ?_
      simp only [Act.put, List.getElem_toArray, List.getElem_cons_succ, List.getElem_cons_zero, List.setIfInBounds_toArray, List.set]
      refine wpAnyH_take (i := 18) (v := undef) rfl (by kernel_rfl) (by kernel_rfl) (by kernel_rfl) (fun _ _ _ h => h) (Or.inr ⟨by rfl, rfl⟩) hHeld ?_
      simp only [Act.put, List.getElem_toArray, List.getElem_cons_succ, List.getElem_cons_zero, List.setIfInBounds_toArray, List.set]
      refine wpAnyH_take (i := 19) (v := undef) rfl (by kernel_rfl) (by kernel_rfl) (by kernel_rfl) (fun _ _ _ h => h) (Or.inr ⟨by rfl, rfl⟩) hHeld ?_
      simp only [Act.put, List.getElem_toArray, List.getElem_cons_succ, List.getElem_cons_zero, List.setIfInBounds_toArray, List.set]
      refine wpAnyH_take (i := 20) (v := ?_) rfl (by kernel_rfl) (by kernel_rfl) (by kernel_rfl) (fun _ _ _ h => h) (Or.inl ⟨by rfl, ?_⟩) hHeld ?_
      rotate_left
      · (intro w' hS'; go_simp <;> with_reducible rfl)
      simp only [Act.put, List.getElem_toArray, List.getElem_cons_succ, List.getElem_cons_zero, List.setIfInBounds_toArray, List.set]
      refine wpAnyH_done (by kernel_rfl) ?_ _
      generalize w10.drew = wd at HA10 HLE10 ⊢
      obtain ⟨z6, zf6, y6, y3, y5, yf5⟩ := HCNT.out wd _ _ _ HA10.out
      clear HCNT
      rcases HLAST.out with hl | hl
      · have dl : ¬ most ≤ c9 := by omega
        have HG := Hid.mk' (HNORM.out hl wd _ _ _ HA10.out HLE10.out)
        clear hl HNORM HRET HLAST
        gi_wp2
        exact HG.out
      · have dl : most ≤ c9 := hl
        have HG := Hid.mk' (HRET.out wd _ _ _ HA10.out HLE10.out)
        clear hl HNORM HRET HLAST
        gi_wp2
        exact ⟨HG.out.1, rfl, HG.out.2⟩
    | true =>
      by_cases hcz : cnt = 0
      case neg =>
        have hz9 : ((cnt : Int) == 0) = false := by simp only [beq_eq_false_iff_ne]; omega
        clear hcz
        refine Rn.region_calls (S := fun w' => (w'.cell? ⟨a0, 0, none⟩ = some (ptr p) ∧ w'.cell? ⟨b1, 0, none⟩ = some (ptr t) ∧ w'.cell? ⟨b2, 2, none⟩ = some (nu n) ∧ w'.cell? ⟨b4, 0, none⟩ = some (.bool true) ∧ w'.cell? ⟨b6, 0, none⟩ = some (nun cnt) ∧ w'.rangeAt b2 3 [nu ls, nu lb])) (fun _ _ h => h) (by kernel_rfl) (by kernel_rfl) HS9.out (fun hHeld => ?_)
        refine wpAnyH_take (i := 0) (v := ?_) rfl (by kernel_rfl) (by kernel_rfl) (by kernel_rfl) (fun _ _ _ h => h) (Or.inl ⟨by rfl, ?_⟩) hHeld ?_
        rotate_left
        · (intro w' hS'; have hq0 := hS'.1; have hq1 := hS'.2.1; have hq2 := hS'.2.2.1; have hq3 := hS'.2.2.2.1; have hq4 := hS'.2.2.2.2.1; go_simp <;> with_reducible rfl)
        simp only [Act.put, List.getElem_toArray, List.getElem_cons_succ, List.getElem_cons_zero, List.setIfInBounds_toArray, List.set]
        refine wpAnyH_take (i := 1) (v := ?_) rfl (by kernel_rfl) (by kernel_rfl) (by kernel_rfl) (fun _ _ _ h => h) (Or.inl ⟨by rfl, ?_⟩) hHeld ?_
        rotate_left
        · (intro w' hS'; go_simp <;> with_reducible rfl)
        simp only [Act.put, List.getElem_toArray, List.getElem_cons_succ, List.getElem_cons_zero, List.setIfInBounds_toArray, List.set]
        refine wpAnyH_take (i := 2) (v := ?_) rfl (by kernel_rfl) (by kernel_rfl) (by kernel_rfl) (fun _ _ _ h => h) (Or.inl ⟨by rfl, ?_⟩) hHeld ?_
        rotate_left
        · (intro w' hS'; have hq0 := hS'.1; have hq1 := hS'.2.1; have hq2 := hS'.2.2.1; have hq3 := hS'.2.2.2.1; have hq4 := hS'.2.2.2.2.1; go_simp <;> with_reducible rfl)
        simp only [Act.put, List.getElem_toArray, List.getElem_cons_succ, List.getElem_cons_zero, List.setIfInBounds_toArray, List.set]
        refine wpAnyH_take (i := 3) (v := ?_) rfl (by kernel_rfl) (by kernel_rfl) (by kernel_rfl) (fun _ _ _ h => h) (Or.inl ⟨by rfl, ?_⟩) hHeld ?_
        rotate_left
        · (intro w' hS'; go_simp <;> with_reducible rfl)
        simp only [Act.put, List.getElem_toArray, List.getElem_cons_succ, List.getElem_cons_zero, List.setIfInBounds_toArray, List.set]
        refine wpAnyH_take (i := 4) (v := ?_) rfl (by kernel_rfl) (by kernel_rfl) (by kernel_rfl) (fun _ _ _ h => h) (Or.inl ⟨by rfl, ?_⟩) hHeld ?_
        rotate_left
        · (intro w' hS'; go_simp <;> with_reducible rfl)
        simp only [Act.put, List.getElem_toArray, List.getElem_cons_succ, List.getElem_cons_zero, List.setIfInBounds_toArray, List.set]
        refine wpAnyH_take (i := 5) (v := ?_) rfl (by kernel_rfl) (by kernel_rfl) (by kernel_rfl) (fun _ _ _ h => h) (Or.inl ⟨by rfl, ?_⟩) hHeld ?_
        rotate_left
        · (intro w' hS'; go_simp <;> with_reducible rfl)
        simp only [Act.put, List.getElem_toArray, List.getElem_cons_succ, List.getElem_cons_zero, List.setIfInBounds_toArray, List.set]
        refine wpAnyH_take (i := 6) (v := undef) rfl (by kernel_rfl) (by kernel_rfl) (by kernel_rfl) (fun _ _ _ h => h) (Or.inr ⟨by rfl, rfl⟩) hHeld ?_
        simp only [Act.put, List.getElem_toArray, List.getElem_cons_succ, List.getElem_cons_zero, List.setIfInBounds_toArray, List.set]
        refine wpAnyH_take (i := 7) (v := undef) rfl (by kernel_rfl) (by kernel_rfl) (by kernel_rfl) (fun _ _ _ h => h) (Or.inr ⟨by rfl, rfl⟩) hHeld ?_
        simp only [Act.put, List.getElem_toArray, List.getElem_cons_succ, List.getElem_cons_zero, List.setIfInBounds_toArray, List.set]
        refine wpAnyH_take (i := 8) (v := undef) rfl (by kernel_rfl) (by kernel_rfl) (by kernel_rfl) (fun _ _ _ h => h) (Or.inr ⟨by rfl, rfl⟩) hHeld ?_
        simp only [Act.put, List.getElem_toArray, List.getElem_cons_succ, List.getElem_cons_zero, List.setIfInBounds_toArray, List.set]
        refine wpAnyH_take (i := 9) (v := undef) rfl (by kernel_rfl) (by kernel_rfl) (by kernel_rfl) (fun _ _ _ h => h) (Or.inr ⟨by rfl, rfl⟩) hHeld ?_
        simp only [Act.put, List.getElem_toArray, List.getElem_cons_succ, List.getElem_cons_zero, List.setIfInBounds_toArray, List.set]
        refine wpAnyH_take (i := 10) (v := undef) rfl (by kernel_rfl) (by kernel_rfl) (by kernel_rfl) (fun _ _ _ h => h) (Or.inr ⟨by rfl, rfl⟩) hHeld ?_
        simp only [Act.put, List.getElem_toArray, List.getElem_cons_succ, List.getElem_cons_zero, List.setIfInBounds_toArray, List.set]
        refine wpAnyH_take (i := 11) (v := undef) rfl (by kernel_rfl) (by kernel_rfl) (by kernel_rfl) (fun _ _ _ h => h) (Or.inr ⟨by rfl, rfl⟩) hHeld ?_
        simp only [Act.put, List.getElem_toArray, List.getElem_cons_succ, List.getElem_cons_zero, List.setIfInBounds_toArray, List.set]
        refine wpAnyH_take (i := 12) (v := undef) rfl (by kernel_rfl) (by kernel_rfl) (by kernel_rfl) (fun _ _ _ h => h) (Or.inr ⟨by rfl, rfl⟩) hHeld ?_
        simp only [Act.put, List.getElem_toArray, List.getElem_cons_succ, List.getElem_cons_zero, List.setIfInBounds_toArray, List.set]
        refine wpAnyH_take (i := 13) (v := undef) rfl (by kernel_rfl) (by kernel_rfl) (by kernel_rfl) (fun _ _ _ h => h) (Or.inr ⟨by rfl, rfl⟩) hHeld ?_
        simp only [Act.put, List.getElem_toArray, List.getElem_cons_succ, List.getElem_cons_zero, List.setIfInBounds_toArray, List.set]
        refine wpAnyH_take (i := 14) (v := undef) rfl (by kernel_rfl) (by kernel_rfl) (by kernel_rfl) (fun _ _ _ h => h) (Or.inr ⟨by rfl, rfl⟩) hHeld ?_
        simp only [Act.put, List.getElem_toArray, List.getElem_cons_succ, List.getElem_cons_zero, List.setIfInBounds_toArray, List.set]
        refine wpAnyH_take (i := 15) (v := undef) rfl (by kernel_rfl) (by kernel_rfl) (by kernel_rfl) (fun _ _ _ h => h) (Or.inr ⟨by rfl, rfl⟩) hHeld ?_
        simp only [Act.put, List.getElem_toArray, List.getElem_cons_succ, List.getElem_cons_zero, List.setIfInBounds_toArray, List.set]
        refine wpAnyH_take (i := 16) (v := undef) rfl (by kernel_rfl) (by kernel_rfl) (by kernel_rfl) (fun _ _ _ h => h) (Or.inr ⟨by rfl, rfl⟩) hHeld ?_
        simp only [Act.put, List.getElem_toArray, List.getElem_cons_succ, List.getElem_cons_zero, List.setIfInBounds_toArray, List.set]
        refine wpAnyH_take (i := 17) (v := undef) rfl (by kernel_rfl) (by kernel_rfl) (by kernel_rfl) (fun _ _ _ h => h) (Or.inr ⟨by rfl, rfl⟩) hHeld ?_
        simp only [Act.put, List.getElem_toArray, List.getElem_cons_succ, List.getElem_cons_zero, List.setIfInBounds_toArray, List.set]
        refine wpAnyH_take (i := 18) (v := undef) rfl (by kernel_rfl) (by kernel_rfl) (by kernel_rfl) (fun _ _ _ h => h) (Or.inr ⟨by rfl, rfl⟩) hHeld ?_
        simp only [Act.put, List.getElem_toArray, List.getElem_cons_succ, List.getElem_cons_zero, List.setIfInBounds_toArray, List.set]
        refine wpAnyH_take (i := 19) (v := undef) rfl (by kernel_rfl) (by kernel_rfl) (by kernel_rfl) (fun _ _ _ h => h) (Or.inr ⟨by rfl, rfl⟩) hHeld ?_
        simp only [Act.put, List.getElem_toArray, List.getElem_cons_succ, List.getElem_cons_zero, List.setIfInBounds_toArray, List.set]
        refine wpAnyH_take (i := 20) (v := ?_) rfl (by kernel_rfl) (by kernel_rfl) (by kernel_rfl) (fun _ _ _ h => h) (Or.inl ⟨by rfl, ?_⟩) hHeld ?_
        rotate_left
        · (intro w' hS'; go_simp <;> with_reducible rfl)
        simp only [Act.put, List.getElem_toArray, List.getElem_cons_succ, List.getElem_cons_zero, List.setIfInBounds_toArray, List.set]
        refine wpAnyH_done (by kernel_rfl) ?_ _
        generalize w10.drew = wd at HA10 HLE10 ⊢
        obtain ⟨z6, zf6, y6, y3, y5, yf5⟩ := HCNT.out wd _ _ _ HA10.out
        clear HCNT
        rcases HLAST.out with hl | hl
        · have dl : ¬ most ≤ c9 := by omega
          have HG := Hid.mk' (HNORM.out hl wd _ _ _ HA10.out HLE10.out)
          clear hl HNORM HRET HLAST
          gi_wp2
          exact HG.out
        · have dl : most ≤ c9 := hl
          have HG := Hid.mk' (HRET.out wd _ _ _ HA10.out HLE10.out)
          clear hl HNORM HRET HLAST
          gi_wp2
          exact ⟨HG.out.1, rfl, HG.out.2⟩
      case pos =>
        have hz9 : ((cnt : Int) == 0) = true := by simp only [beq_iff_eq]; omega
        clear hcz
        obtain ⟨z, L2, hz, hs1, hs2⟩ := both_set C base p t L1 ls lb n
        have cS1 : Hid (Calls Tryd.prog 10 #[ptr p, .agg #[nu ls, nu lb], nu n] w10.drew fun e w' => e = .returned (errE z) ∧ (w'.cell? ⟨a0, 0, none⟩ = some (ptr p) ∧ w'.cell? ⟨b1, 0, none⟩ = some (ptr t) ∧ w'.cell? ⟨b2, 2, none⟩ = some (nu n) ∧ w'.cell? ⟨b4, 0, none⟩ = some (.bool true) ∧ w'.cell? ⟨b6, 0, none⟩ = some (nun cnt) ∧ w'.rangeAt b2 3 [nu ls, nu lb]) ∧ Hid (∃ F2, Amid R base w0 w w4 p t F G X hi a0 b1 b2 b3 b4 b5 b6 k at1 n ls lb most true cnt F2 G2 L2 L1 w' ∧ Rf.Lets X w4.heap.size hi W5 w' ∧ hi ≤ w'.heap.size)) := by
          refine (hs1 w10.drew F1 HA10.out.1.bd.xe.rep).mono ?_
          rintro e w' ⟨rfl, hl⟩
          obtain ⟨F2, g1, g2⟩ := Amid.turn1 C HA10.out HS10.out hl
          exact ⟨rfl, g1.2.1.put9, F2, g1, HLE10.out.trans (Rf.Lets.keep g2 (fun j hj => HA10.out.1.lp.off j hj)), Nat.le_trans HS10.out g2.size⟩
        have cS2 : Hid (∀ wx, Hid (∃ F2, Amid R base w0 w w4 p t F G X hi a0 b1 b2 b3 b4 b5 b6 k at1 n ls lb most true cnt F2 G2 L2 L1 wx ∧ Rf.Lets X w4.heap.size hi W5 wx ∧ hi ≤ wx.heap.size) → Calls Tryd.prog 11 #[ptr t, .agg #[nu ls, nu lb], nu n] wx fun e w' => e = .returned (nun z) ∧ (w'.cell? ⟨a0, 0, none⟩ = some (ptr p) ∧ w'.cell? ⟨b1, 0, none⟩ = some (ptr t) ∧ w'.cell? ⟨b2, 2, none⟩ = some (nu n) ∧ w'.cell? ⟨b4, 0, none⟩ = some (.bool true) ∧ w'.cell? ⟨b6, 0, none⟩ = some (nun cnt) ∧ w'.rangeAt b2 3 [nu ls, nu lb]) ∧ Hid (∃ F2 G3, Amid R base w0 w w4 p t F G X hi a0 b1 b2 b3 b4 b5 b6 k at1 n ls lb most true cnt F2 G3 L2 L2 w' ∧ Rf.Lets X w4.heap.size hi W5 w')) := fun wx hx => by
          obtain ⟨F2, g1, g2, g3⟩ := hx.out
          refine (hs2 wx G2 g1.1.bd.ref).mono ?_
          rintro e w' ⟨rfl, hl⟩
          obtain ⟨G3, g4, g5⟩ := Amid.turn2 C g1 g3 hl
          exact ⟨rfl, g4.2.1.put9, F2, G3, g4, g2.trans (Rf.Lets.keep g5 (fun j hj => g1.1.goff j hj))⟩
        have cS3 : Hid (∀ wx, Hid (∃ F2 G3, Amid R base w0 w w4 p t F G X hi a0 b1 b2 b3 b4 b5 b6 k at1 n ls lb most true cnt F2 G3 L2 L2 wx ∧ Rf.Lets X w4.heap.size hi W5 wx) → Calls Tryd.prog 9 #[errE z, nun z] wx fun e w' => e = .returned (.bool true) ∧ (w'.cell? ⟨a0, 0, none⟩ = some (ptr p) ∧ w'.cell? ⟨b1, 0, none⟩ = some (ptr t) ∧ w'.cell? ⟨b2, 2, none⟩ = some (nu n) ∧ w'.cell? ⟨b4, 0, none⟩ = some (.bool true) ∧ w'.cell? ⟨b6, 0, none⟩ = some (nun cnt) ∧ w'.rangeAt b2 3 [nu ls, nu lb]) ∧ Hid (∃ F2 G3, Amid R base w0 w w4 p t F G X hi a0 b1 b2 b3 b4 b5 b6 k at1 n ls lb most true cnt F2 G3 L2 L2 w' ∧ Rf.Lets X w4.heap.size hi W5 w')) := fun wx hx => by
          obtain ⟨F2, G3, g1, g2⟩ := hx.out
          refine (plainH z hz wx (HE.out.below g1.1.bd.xe.bel)).mono ?_
          rintro e w' ⟨rfl, hb⟩
          have g3 := Amid.below C g1 hb
          exact ⟨rfl, g3.2.1.put9, F2, G3, g3, g2.trans (Rf.Lets.keep (Keep.of_below (F := fun _ => False) hb) (fun _ e => e.elim))⟩
        clear hz hs1 hs2 HA10 HLE10 HS10
        refine Rn.region_calls (S := fun w' => (w'.cell? ⟨a0, 0, none⟩ = some (ptr p) ∧ w'.cell? ⟨b1, 0, none⟩ = some (ptr t) ∧ w'.cell? ⟨b2, 2, none⟩ = some (nu n) ∧ w'.cell? ⟨b4, 0, none⟩ = some (.bool true) ∧ w'.cell? ⟨b6, 0, none⟩ = some (nun cnt) ∧ w'.rangeAt b2 3 [nu ls, nu lb])) (fun _ _ h => h) (by kernel_rfl) (by kernel_rfl) HS9.out (fun hHeld => ?_)
        refine wpAnyH_take (i := 0) (v := ?_) rfl (by kernel_rfl) (by kernel_rfl) (by kernel_rfl) (fun _ _ _ h => h) (Or.inl ⟨by rfl, ?_⟩) hHeld ?_
        rotate_left
        · (intro w' hS'; have hq0 := hS'.1; have hq1 := hS'.2.1; have hq2 := hS'.2.2.1; have hq3 := hS'.2.2.2.1; have hq4 := hS'.2.2.2.2.1; go_simp <;> with_reducible rfl)
        simp only [Act.put, List.getElem_toArray, List.getElem_cons_succ, List.getElem_cons_zero, List.setIfInBounds_toArray, List.set]
        refine wpAnyH_take (i := 1) (v := ?_) rfl (by kernel_rfl) (by kernel_rfl) (by kernel_rfl) (fun _ _ _ h => h) (Or.inl ⟨by rfl, ?_⟩) hHeld ?_
        rotate_left
        · (intro w' hS'; go_simp <;> with_reducible rfl)
        simp only [Act.put, List.getElem_toArray, List.getElem_cons_succ, List.getElem_cons_zero, List.setIfInBounds_toArray, List.set]
        refine wpAnyH_take (i := 2) (v := ?_) rfl (by kernel_rfl) (by kernel_rfl) (by kernel_rfl) (fun _ _ _ h => h) (Or.inl ⟨by rfl, ?_⟩) hHeld ?_
        rotate_left
        · (intro w' hS'; have hq0 := hS'.1; have hq1 := hS'.2.1; have hq2 := hS'.2.2.1; have hq3 := hS'.2.2.2.1; have hq4 := hS'.2.2.2.2.1; go_simp <;> with_reducible rfl)
        simp only [Act.put, List.getElem_toArray, List.getElem_cons_succ, List.getElem_cons_zero, List.setIfInBounds_toArray, List.set]
        refine wpAnyH_take (i := 3) (v := ?_) rfl (by kernel_rfl) (by kernel_rfl) (by kernel_rfl) (fun _ _ _ h => h) (Or.inl ⟨by rfl, ?_⟩) hHeld ?_
        rotate_left
        · (intro w' hS'; go_simp <;> with_reducible rfl)
        simp only [Act.put, List.getElem_toArray, List.getElem_cons_succ, List.getElem_cons_zero, List.setIfInBounds_toArray, List.set]
        refine wpAnyH_take (i := 4) (v := ?_) rfl (by kernel_rfl) (by kernel_rfl) (by kernel_rfl) (fun _ _ _ h => h) (Or.inl ⟨by rfl, ?_⟩) hHeld ?_
        rotate_left
        · (intro w' hS'; go_simp <;> with_reducible rfl)
        simp only [Act.put, List.getElem_toArray, List.getElem_cons_succ, List.getElem_cons_zero, List.setIfInBounds_toArray, List.set]
        refine wpAnyH_take (i := 5) (v := ?_) rfl (by kernel_rfl) (by kernel_rfl) (by kernel_rfl) (fun _ _ _ h => h) (Or.inl ⟨by rfl, ?_⟩) hHeld ?_
        rotate_left
        · (intro w' hS'; go_simp <;> with_reducible rfl)
        simp only [Act.put, List.getElem_toArray, List.getElem_cons_succ, List.getElem_cons_zero, List.setIfInBounds_toArray, List.set]
        refine wpAnyH_take (i := 6) (v := ?_) rfl (by kernel_rfl) (by kernel_rfl) (by kernel_rfl) (fun _ _ _ h => h) (Or.inl ⟨by rfl, ?_⟩) hHeld ?_
        rotate_left
        · (intro w' hS'; have hq0 := hS'.1; have hq1 := hS'.2.1; have hq2 := hS'.2.2.1; have hq3 := hS'.2.2.2.1; have hq4 := hS'.2.2.2.2.1; go_simp <;> with_reducible rfl)
        simp only [Act.put, List.getElem_toArray, List.getElem_cons_succ, List.getElem_cons_zero, List.setIfInBounds_toArray, List.set]
        refine wpAnyH_take (i := 7) (v := ?_) rfl (by kernel_rfl) (by kernel_rfl) (by kernel_rfl) (fun _ _ _ h => h) (Or.inl ⟨by rfl, ?_⟩) hHeld ?_
        rotate_left
        · (intro w' hS'; go_simp <;> with_reducible rfl)
        simp only [Act.put, List.getElem_toArray, List.getElem_cons_succ, List.getElem_cons_zero, List.setIfInBounds_toArray, List.set]
        refine wpAnyH_take (i := 8) (v := _) rfl (by kernel_rfl) (by kernel_rfl) (by kernel_rfl) (fun _ _ _ h => h) (yieldsIf_load_mid (by rfl) 31 _ rfl b2 3 rfl [nu ls, nu lb] _ (fun w' h => h.2.2.2.2.2) Tryd.underlying31 rfl size_lk) hHeld ?_
        simp only [Act.put, List.getElem_toArray, List.getElem_cons_succ, List.getElem_cons_zero, List.setIfInBounds_toArray, List.set]
        refine wpAnyH_take (i := 9) (v := ?_) rfl (by kernel_rfl) (by kernel_rfl) (by kernel_rfl) (fun _ _ _ h => h) (Or.inl ⟨by rfl, ?_⟩) hHeld ?_
        rotate_left
        · (intro w' hS'; go_simp <;> with_reducible rfl)
        simp only [Act.put, List.getElem_toArray, List.getElem_cons_succ, List.getElem_cons_zero, List.setIfInBounds_toArray, List.set]
        refine wpAnyH_take (i := 10) (v := ?_) rfl (by kernel_rfl) (by kernel_rfl) (by kernel_rfl) (fun _ _ _ h => h) (Or.inl ⟨by rfl, ?_⟩) hHeld ?_
        rotate_left
        · (intro w' hS'; have hq0 := hS'.1; have hq1 := hS'.2.1; have hq2 := hS'.2.2.1; have hq3 := hS'.2.2.2.1; have hq4 := hS'.2.2.2.2.1; go_simp <;> with_reducible rfl)
        simp only [Act.put, List.getElem_toArray, List.getElem_cons_succ, List.getElem_cons_zero, List.setIfInBounds_toArray, List.set]
        refine wpAnyH_take (i := 12) (v := ?_) rfl (by kernel_rfl) (by kernel_rfl) (by kernel_rfl) (fun _ _ _ h => h) (Or.inl ⟨by rfl, ?_⟩) hHeld ?_
        rotate_left
        · (intro w' hS'; have hq0 := hS'.1; have hq1 := hS'.2.1; have hq2 := hS'.2.2.1; have hq3 := hS'.2.2.2.1; have hq4 := hS'.2.2.2.2.1; go_simp <;> with_reducible rfl)
        simp only [Act.put, List.getElem_toArray, List.getElem_cons_succ, List.getElem_cons_zero, List.setIfInBounds_toArray, List.set]
        refine wpAnyH_take (i := 13) (v := ?_) rfl (by kernel_rfl) (by kernel_rfl) (by kernel_rfl) (fun _ _ _ h => h) (Or.inl ⟨by rfl, ?_⟩) hHeld ?_
        rotate_left
        · (intro w' hS'; go_simp <;> with_reducible rfl)
        simp only [Act.put, List.getElem_toArray, List.getElem_cons_succ, List.getElem_cons_zero, List.setIfInBounds_toArray, List.set]
        refine wpAnyH_take (i := 14) (v := _) rfl (by kernel_rfl) (by kernel_rfl) (by kernel_rfl) (fun _ _ _ h => h) (yieldsIf_load_mid (by rfl) 31 _ rfl b2 3 rfl [nu ls, nu lb] _ (fun w' h => h.2.2.2.2.2) Tryd.underlying31 rfl size_lk) hHeld ?_
        simp only [Act.put, List.getElem_toArray, List.getElem_cons_succ, List.getElem_cons_zero, List.setIfInBounds_toArray, List.set]
        refine wpAnyH_take (i := 15) (v := ?_) rfl (by kernel_rfl) (by kernel_rfl) (by kernel_rfl) (fun _ _ _ h => h) (Or.inl ⟨by rfl, ?_⟩) hHeld ?_
        rotate_left
        · (intro w' hS'; go_simp <;> with_reducible rfl)
        simp only [Act.put, List.getElem_toArray, List.getElem_cons_succ, List.getElem_cons_zero, List.setIfInBounds_toArray, List.set]
        refine wpAnyH_take (i := 16) (v := ?_) rfl (by kernel_rfl) (by kernel_rfl) (by kernel_rfl) (fun _ _ _ h => h) (Or.inl ⟨by rfl, ?_⟩) hHeld ?_
        rotate_left
        · (intro w' hS'; have hq0 := hS'.1; have hq1 := hS'.2.1; have hq2 := hS'.2.2.1; have hq3 := hS'.2.2.2.1; have hq4 := hS'.2.2.2.2.1; go_simp <;> with_reducible rfl)
        simp only [Act.put, List.getElem_toArray, List.getElem_cons_succ, List.getElem_cons_zero, List.setIfInBounds_toArray, List.set]
        refine wpAnyH_ready (rs := [11]) (by kernel_rfl) (by simp) ?_
        refine AllReadyH.cons rfl (fun K hK => ?_) AllReadyH.nil
        go_simp
        refine cS1.out.mono ?_
        rintro e v11 ⟨rfl, hs11, HQ1⟩
        go_wp2_with fail
        refine hK.out _ _ hs11 (fun hHeld => ?_)
        clear hK K
        refine wpAnyH_ready (rs := [17]) (by kernel_rfl) (by simp) ?_
        refine AllReadyH.cons rfl (fun K hK => ?_) AllReadyH.nil
        go_simp
        refine (cS2.out _ HQ1).mono ?_
        rintro e v17 ⟨rfl, hs17, HQ2⟩
        go_wp2_with fail
        refine hK.out _ _ hs17 (fun hHeld => ?_)
        clear hK K
        refine wpAnyH_ready (rs := [18]) (by kernel_rfl) (by simp) ?_
        refine AllReadyH.cons rfl (fun K hK => ?_) AllReadyH.nil
        go_simp
        refine (cS3.out _ HQ2).mono ?_
        rintro e v18 ⟨rfl, hs18, HQ3⟩
        go_wp2_with fail
        refine hK.out _ _ hs18 (fun hHeld => ?_)
        clear hK K
        refine wpAnyH_take (i := 19) (v := ?_) rfl (by kernel_rfl) (by kernel_rfl) (by kernel_rfl) (fun _ _ _ h => h) (Or.inl ⟨by rfl, ?_⟩) hHeld ?_
        rotate_left
        · (intro w' hS'; go_simp <;> with_reducible rfl)
        simp only [Act.put, List.getElem_toArray, List.getElem_cons_succ, List.getElem_cons_zero, List.setIfInBounds_toArray, List.set]
        refine wpAnyH_take (i := 20) (v := ?_) rfl (by kernel_rfl) (by kernel_rfl) (by kernel_rfl) (fun _ _ _ h => h) (Or.inl ⟨by rfl, ?_⟩) hHeld ?_
        rotate_left
        · (intro w' hS'; go_simp <;> with_reducible rfl)
        simp only [Act.put, List.getElem_toArray, List.getElem_cons_succ, List.getElem_cons_zero, List.setIfInBounds_toArray, List.set]
        refine wpAnyH_done (by kernel_rfl) ?_ _
        obtain ⟨F3, G3, hA18, hle18⟩ := HQ3.out
        obtain ⟨z6, zf6, y6, y3, y5, yf5⟩ := HCNT.out v18 _ _ _ hA18
        clear HCNT
        rcases HLAST.out with hl | hl
        · have dl : ¬ most ≤ c9 := by omega
          have HG := Hid.mk' (HNORM.out hl v18 _ _ _ hA18 hle18)
          clear hl HNORM HRET HLAST
          gi_wp2
          exact HG.out
        · have dl : most ≤ c9 := hl
          have HG := Hid.mk' (HRET.out v18 _ _ _ hA18 hle18)
          clear hl HNORM HRET HLAST
          gi_wp2
          exact ⟨HG.out.1, rfl, HG.out.2⟩
  case done =>
    rintro W2 ⟨F', G', L', cnt, hA, hx⟩ hK
    obtain ⟨v0, v1, v2, _, _, _, v5, _, vf5, _⟩ := hA.2.1.cells
    have c9 : Hid (Calls Tryd.prog 26 #[ptr t, nu at1] W2 fun e w' => e = .returned (.tuple #[.agg #[nu 0, nu 0], .bool false]) ∧ Hid (Below W2.heap.size W2 w')) := by
      refine (dueE_rn hA.1.bd.ref at1 hx).mono ?_
      rintro e w' ⟨rfl, hb⟩
      exact ⟨rfl, hb⟩
    have HAA := Hid.mk' hA
    have HK := Hid.mk' hK
    clear hA hx hK v5 vf5
    go_wp2_with fail
    refine c9.out.mono ?_
    rintro e w9 ⟨rfl, HB9⟩
    clear c9 v0 v1 v2
    obtain ⟨yb, hyb⟩ : ∃ yb, w9.heap.size = yb := ⟨_, rfl⟩
    obtain ⟨Wz, hWz⟩ : ∃ Wz, w9.alloc (.cells #[nu 0, nu 0] 31) = Wz := ⟨_, rfl⟩
    have hz : Wz.heap[yb]? = some (.cells #[nu 0, nu 0] 31) := by rw [← hWz, ← hyb]; exact heap_alloc_new _ _
    have hkz : Keep (fun _ => False) w9 Wz := by rw [← hWz]; exact (Keep.refl _ _).alloc _
    have HZ := Hid.mk' hz
    have HYB := Hid.mk' hyb
    have HWZ := Hid.mk' hWz
    have H10 : Hid (∀ w10, Wz.grownBy w10 (some yb) → Amid R base w0 w w4 p t F G X hi a0 b1 b2 b3 b4 b5 b6 k at1 n ls lb most put cnt F' G' L' L' w10 ∧ w10.heap[w4.heap.size]? = some (.deferred (some []))) := fun w10 hg => by
      have hk9 : Keep (fun _ => False) W2 w9 := Keep.of_below HB9.out
      have hk10 : Keep (fun _ => False) W2 w10 := hk9.trans (hkz.grown hg (fun j e => .inr (by injection e with e; omega))) (fun _ _ e => e)
      exact ⟨HAA.out.keep C hk10 (fun _ e => e.elim), hk10.at HK.out (fun e => e)⟩
    clear hz hyb hWz hkz HB9
    go_wp2_with (first | (rw [HWZ.out, HYB.out]; refine wpList_store_lnk rfl _ _ rfl yb rfl _ _ rfl _ _ HZ.out ?_; intro w10 hl10 hg10; have HA10 := Hid.mk' (H10.out w10 hg10).1; have HK10 := Hid.mk' (H10.out w10 hg10).2; obtain ⟨_, _, _, _, _, _, v5, _, vf5, _⟩ := HA10.out.2.1.cells; clear hl10 hg10) | fail)
    have hb5 := HA10.out.2.1.eb
    have hl4 := HL4.out
    have hD : (w10.setCell ⟨b5, 0, none⟩ (.bool true)).heap[w4.heap.size]? = some (.deferred (some [])) := by
      rw [Below.heap_setCell _ _ _ _ (by show w4.heap.size ≠ b5; omega)]
      exact HK10.out
    obtain ⟨h1, h2⟩ := Amid.told C HA10.out
    obtain ⟨h3, h4⟩ := HFIN.out _ _ _ _ h1 h2
    refine ⟨by simp, .inl ⟨_, _, rfl, run_takeDeferred hD, ?_⟩⟩
    exact ⟨_, results_bool1 rfl _ _ b5 true rfl h3, rfl, h4⟩
  case stop =>
    rintro cd W2 ⟨rfl, h5, F', G', L', hA⟩ hK
    obtain ⟨h3, h4⟩ := HFIN.out _ _ _ _ hA h5
    clear h5 hA
    go_wp2
    refine ⟨by simp, .inl ⟨_, _, rfl, run_takeDeferred hK, ?_⟩⟩
    exact ⟨_, results_bool1 rfl _ _ b5 true rfl h3, rfl, h4⟩
end Ex
end Go.Proofs.YthjdpfmnbmnbhaaDoor
