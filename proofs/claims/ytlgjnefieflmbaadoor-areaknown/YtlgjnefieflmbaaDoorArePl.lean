/- One Save, and two Loads, on both disks. -/
import Derived.Test.YtlgjnefieflmbaaDoorPairA
namespace Go.Proofs.YtlgjnefieflmbaaDoor
set_option linter.ambiguousOpen false
open Go.RowKit
namespace Ae
open Sm Ft Dk
set_option linter.unusedSimpArgs false
set_option linter.unusedVariables false

theorem below_fromS {w a b : World} (h : Below w.heap.size w a) (k : Below a.heap.size a b) : Below w.heap.size w b := h.trans (k.mono h.size)

theorem ownB {w w' : World} {base : Nat} {e : TypeId} {size : Nat} {v : Value} {n : Nat} {xs : List Value} (h : w.ownsRow base e size v n xs) (hb : Below w.heap.size w w') : w'.ownsRow base e size v n xs := (Keep.of_below (F := fun _ => False) hb).own h (fun _ _ h => h)

theorem plainL (n : Nat) (h : n ≤ 24) (w : World) (hg : Er.Handle w) : Calls Tryd.prog 9 #[errE n, nu n] w fun e w' => e = .returned (.bool true) ∧ Below w.heap.size w w' := by
  cases n with
  | zero => exact Er.plain_nil 0 w
  | succ n =>
    have := Er.plain_no (n + 1) ((n + 1 : Nat) : Int) (by omega) h w hg
    rw [decide_eq_true rfl] at this
    exact this

/-- An act as it comes in. -/
@[reducible] def actC (k a n : Int) (ep : Nat) (pv : Value) : Array Value := #[nu k, nu a, nu n, .int .u32 (ep : Int), pv]

theorem actc {w : World} {X : Nat} {k a n : Int} {ep : Nat} {pv : Value} (h : w.heap[X]? = some (.cells (actC k a n ep pv) 35)) : w.cell? ⟨X, 0, none⟩ = some (nu k) ∧ w.cell? ⟨X, 1, none⟩ = some (nu a) ∧ w.cell? ⟨X, 2, none⟩ = some (nu n) ∧ w.cell? ⟨X, 3, none⟩ = some (.int .u32 (ep : Int)) ∧ w.cell? ⟨X, 4, none⟩ = some pv := by
  simp [World.cell?, h]

/-- A row that was lent lies in what is new: a disk's call leaves it. -/
theorem rd_keep {F : Nat → Prop} {w w' : World} {v : Value} {l : List UInt8} (h : RdB w v l) (hk : Keep F w w') (hF : ∀ k, F k → ∀ a n c, v = .slice (some a) n c → a.block ≠ k) : RdB w' v l := by
  obtain ⟨a, cap, rfl, h1, h2, h3⟩ := h
  refine ⟨a, cap, rfl, h1, h2, fun h0 => ?_⟩
  obtain ⟨g, o, rfl, h4, h5⟩ := h3 h0
  exact ⟨g, o, rfl, Nat.lt_of_lt_of_le h4 hk.size, fun j hj => (hk.cell (p := ⟨g, o + j, none⟩) h4 (fun hc => hF g hc _ _ _ rfl rfl)).trans (h5 j hj)⟩

set_option maxRecDepth 100000 in
set_option maxHeartbeats 8000000 in
theorem lawsave_any {Rep : World → Nat → (Nat → Prop) → Dsk → Prop} (H : Says Rep) (SV : SaveC Rep) (w wr : World) (p g : Nat) (F G : Nat → Prop) (d : Dsk) (k a n : Int) (ep : Nat) (pv : Value) (x : List UInt8) (hS : Dp Rep w wr p g F G d d) (hE : Er.Handle w) (hN : Nb d) (ht : d.tr.length + 5000 ≤ 1000000000) (ha : -9223372036854775808 ≤ a ∧ a ≤ 9223372036854775807) (hn : -9223372036854775808 ≤ n ∧ n ≤ 9223372036854775807) (hep : ep < 4294967296) (hv : RdB w pv x) (hz : Pk.Nz pv) (hx : x.length ≤ 140737488351232) :
    Calls Tryd.prog 15 #[ptr p, ptr g, .agg (actC k a n ep pv)] wr fun e w' => e = .returned (.bool true) ∧ Keep (fun k => F k ∨ G k) wr w' ∧ ∃ F' G', Dp Rep w w' p g F' G' (save d a n ep x).2 (save d a n ep x).2 := by
  obtain ⟨pa, pl, pc, hpe, hp1, hp2, hp3⟩ : ∃ pa pl pc, pv = .slice pa pl pc ∧ True ∧ True ∧ True := by
    obtain ⟨a, c, h, _⟩ := hv
    exact ⟨a, _, c, h, trivial, trivial, trivial⟩
  subst hpe
  have hb0 : Below wr.heap.size wr (wr.alloc (.cells (actC k a n ep (.slice pa pl pc)) 35)) := (Below.refl _ _).alloc (Nat.le_refl _) _
  have hX : (wr.alloc (.cells (actC k a n ep (.slice pa pl pc)) 35)).heap[wr.heap.size]? = some (.cells (actC k a n ep (.slice pa pl pc)) 35) := heap_alloc_new _ _
  obtain ⟨X, hXe⟩ : ∃ X, wr.heap.size = X := ⟨_, rfl⟩
  obtain ⟨w0, hw0⟩ : ∃ w0, wr.alloc (.cells (actC k a n ep (.slice pa pl pc)) 35) = w0 := ⟨_, rfl⟩
  have hS0 := hS.below H hb0
  rw [hw0] at hX hS0
  rw [hXe] at hX
  obtain ⟨x0, x1, x2, x3, x4⟩ := actc hX
  have hXl : X < w0.heap.size := (Array.getElem?_eq_some_iff.1 hX).1
  have hXF : ¬ F X := fun hc => by have := H.lt hS.rep X hc; omega
  have hXG : ¬ G X := fun hc => by have := (hS.ref.lt X hc).2; omega
  obtain ⟨len, hlen⟩ : ∃ len, x.length = len := ⟨_, rfl⟩
  have HL := Hid.mk' hlen
  have HPV := Hid.mk' hv
  have HH := Hid.mk' H
  have C1 : Hid (Calls Tryd.prog 35 #[.slice pa pl pc] w0 fun e w' => ∃ gb cap, e = .returned (.slice (some ⟨gb, 0, none⟩) len cap) ∧ (len + 16 ≤ cap ∧ cap ≤ maxLen) ∧ Hid (w'.ownsRow w0.heap.size 5 1 (.slice (some ⟨gb, 0, none⟩) (len + 16) cap) (len + 16) ((x ++ mksB 16).map by1) ∧ Below w0.heap.size w0 w')) := by
    refine (lentB_any _ x w0 (hv.below hS0.bel) hx).mono ?_
    rintro e w' ⟨gb, cap, rfl, h1, h2, h3, h4⟩
    rw [hlen] at h1 h3 ⊢
    exact ⟨gb, cap, rfl, ⟨h1, h2⟩, h3, h4⟩
  obtain ⟨A, hA⟩ : ∃ A, save d a n ep x = A := ⟨_, rfl⟩
  have hAle := save_le d a n ep x
  rw [hA] at hAle
  rw [hA]
  have C2 : Hid (∀ wx v, Dp Rep w wx p g F G d d → (∀ w', Keep F wx w' → RdB w' v x) → Pk.Nz v → Calls Tryd.prog 23 #[ptr p, nu a, nu n, .int .u32 (ep : Int), v] wx fun e w' => e = .returned (errE A.1) ∧ ∃ F', Dp Rep w w' p g F' G A.2 d ∧ Keep F wx w') := fun wx v h h1 h2 => by
    refine (SV wx p F d a n ep v x h.rep hN ht ha hn hep h1 h2).mono ?_
    rintro e w' ⟨rfl, G', r1, r2, r3⟩
    rw [hA] at r1 ⊢
    exact ⟨rfl, G', h.turn1 HH.out r1 r2 r3, r2⟩
  have C3 : Hid (∀ wx F' d', Dp Rep w wx p g F' G d' d → Calls Tryd.prog 36 #[ptr g, nu a, nu n, .int .u32 (ep : Int), .slice pa pl pc] wx fun e w' => e = .returned (nu (A.1 : Int)) ∧ ∃ G', Dp Rep w w' p g F' G' d' A.2 ∧ Keep G wx w') := fun wx F' d' h => by
    refine (save_ref w.heap.size wx g G d a n ep _ x h.ref ⟨hN.n1, hN.n2⟩ ⟨hN.lo, hN.hi⟩ ht hep (fun w' hk => HPV.out.below (h.bel.trans (hk.below (fun j hj hc => by have := (h.ref.lt j hc).1; omega) h.bel.size)))).mono ?_
    rintro e w' ⟨rfl, G', r1, r2, r3⟩
    rw [hA] at r1 ⊢
    exact ⟨rfl, G', h.turn2 HH.out r1 r2 r3, r2⟩
  have cQ : Hid (∀ wx, Er.Handle wx → Calls Tryd.prog 9 #[errE A.1, nu (A.1 : Int)] wx fun e w' => e = .returned (.bool true) ∧ Below wx.heap.size wx w') := fun wx hg => plainL A.1 hAle wx hg
  have cB : Hid (∀ wx gb cap base, RdB wx (.slice pa pl pc) x → len + 16 ≤ cap → cap ≤ maxLen → wx.ownsRow base 5 1 (.slice (some ⟨gb, 0, none⟩) (len + 16) cap) (len + 16) ((x ++ mksB 16).map by1) → gb < wx.heap.size → Calls Tryd.prog 37 #[.slice (some ⟨gb, 0, none⟩) len cap, .slice pa pl pc] wx fun e w' => e = .returned (.bool true) ∧ Below wx.heap.size wx w') := fun wx gb cap base h1 h2 h3 h4 h5 => by
    have := keptB_any (.slice pa pl pc) x gb cap base wx h1 hx (by rw [hlen]; exact h2) h3 (by rw [hlen]; exact h4) h5
    rw [hlen] at this
    exact this
  have HE := Hid.mk' hE
  have HS0 := Hid.mk' hS0
  have HK0 : Hid (Keep (fun k => F k ∨ G k) wr w0) := by rw [← hw0]; exact Keep.of_below hb0
  have HX := Hid.mk' hX
  have HXF := Hid.mk' hXF
  have HXG := Hid.mk' hXG
  unfold actC at hw0 ⊢
  clear hS hS0 hE hN ht ha hn hep hv hz hx hA hAle hlen hXF hXG hX hp1 hp2 hp3 H SV hb0
  go_enter Tryd.func15, Tryd.ntmps15
  go_wp2_with fail
  refine C1.out.mono ?_
  rintro e w1 ⟨gb, cap, rfl, ⟨hc1, hc2⟩, hR1⟩
  obtain ⟨ho1, hb1⟩ := hR1.out
  have hS1 := HS0.out.below HH.out hb1
  have HK1 : Hid (Keep (fun k => F k ∨ G k) wr w1) := HK0.out.trans (Keep.of_below (F := fun _ => False) hb1) (fun _ _ h => h.elim)
  have hgb := ho1.lt gb rfl
  have hX1 := (hb1.block X hXl).trans HX.out
  have hXl1 : X < w1.heap.size := Nat.lt_of_lt_of_le hXl hb1.size
  have hgF : ¬ F gb := fun hc => by have := HH.out.lt HS0.out.rep gb hc; omega
  have hgG : ¬ G gb := fun hc => by have := (HS0.out.ref.lt gb hc).2; omega
  have hrd : ∀ w', Keep F w1 w' → RdB w' (.slice (some ⟨gb, 0, none⟩) len cap) x := fun w' hk => by
    have ho' := hk.own ho1 (fun b hb hc => by
      have hb' : gb = b := by simpa [Value.ownBlock] using hb
      rw [← hb'] at hc
      exact hgF hc)
    have := rdB_lent (l := x) (g := gb) (cap := cap) (base := w0.heap.size) (w := w') (by rw [HL.out]; exact ho') (by rw [HL.out]; exact hc1) hc2 (Nat.lt_of_lt_of_le hgb.2 hk.size)
    rw [HL.out] at this
    exact this
  have D2 := Hid.mk' (C2.out w1 _ hS1 hrd (.inr ⟨_, _, _, rfl⟩))
  obtain ⟨x0, x1, x2, x3, x4⟩ := actc hX1
  have HO1 := Hid.mk' ho1
  have HX1 := Hid.mk' hX1
  have HC2 := Hid.mk' hc2
  have HGF : Hid (¬ F gb ∧ ¬ G gb ∧ w0.heap.size ≤ gb) := ⟨hgF, hgG, hgb.1⟩
  have HS1 := Hid.mk' hS1
  unfold maxLen at hc2
  clear hrd hS1 ho1 hb1 hR1 C1 C2 hgb hX1 hgF hgG hw0
  generalize hen : errE A.1 = en at *
  go_wp2_with fail
  refine D2.out.mono ?_
  rintro e w2 ⟨rfl, F2, hS2, hk2⟩
  have HK2 : Hid (Keep (fun k => F k ∨ G k) wr w2) := HK1.out.trans hk2 (fun _ _ h => .inl h)
  have hX2 := hk2.at HX1.out HXF.out
  obtain ⟨x0, x1, x2, x3, x4⟩ := actc hX2
  have HO2 := Hid.mk' (hk2.own HO1.out (fun b hb hc => by
      have hb' : gb = b := by simpa [Value.ownBlock] using hb
      rw [← hb'] at hc
      exact HGF.out.1 hc))
  have D3 := Hid.mk' (C3.out w2 F2 _ hS2)
  have HX2 := Hid.mk' hX2
  clear hS2 hk2 hX2 D2 C3 HO1 HX1 HS1
  go_wp2_with fail
  refine D3.out.mono ?_
  rintro e w3 ⟨rfl, G3, hS3, hk3⟩
  have HK3 : Hid (Keep (fun k => F k ∨ G k) wr w3) := HK2.out.trans hk3 (fun _ _ h => .inr h)
  have hX3 := hk3.at HX2.out HXG.out
  obtain ⟨x0, x1, x2, x3, x4⟩ := actc hX3
  have HO3 := Hid.mk' (hk3.own HO2.out (fun b hb hc => by
      have hb' : gb = b := by simpa [Value.ownBlock] using hb
      rw [← hb'] at hc
      exact HGF.out.2.1 hc))
  have D4 := Hid.mk' (cQ.out w3 (HE.out.below hS3.bel))
  have HS3 := Hid.mk' hS3
  have HX3 := Hid.mk' hX3
  clear hS3 hk3 hX3 D3 HO2 HX2 cQ
  go_wp2_with fail
  refine D4.out.mono ?_
  rintro e w4 ⟨rfl, hb4⟩
  have HK4 : Hid (Keep (fun k => F k ∨ G k) wr w4) := HK3.out.trans (Keep.of_below (F := fun _ => False) hb4) (fun _ _ h => h.elim)
  have hX4 := (hb4.block X (Array.getElem?_eq_some_iff.1 HX3.out).1).trans HX3.out
  obtain ⟨x0, x1, x2, x3, x4⟩ := actc hX4
  have hO4 := ownB HO3.out hb4
  have hS4 := HS3.out.below HH.out hb4
  have D5 := Hid.mk' (cB.out w4 gb cap w0.heap.size (HPV.out.below hS4.bel) hc1 HC2.out hO4 (hO4.lt gb rfl).2)
  have HS4 := Hid.mk' hS4
  clear hb4 hX4 hO4 hS4 D4 HO3 HX3 HS3 cB
  go_wp2_with fail
  refine D5.out.mono ?_
  rintro e w5 ⟨rfl, hb5⟩
  have HK5 : Hid (Keep (fun k => F k ∨ G k) wr w5) := HK4.out.trans (Keep.of_below (F := fun _ => False) hb5) (fun _ _ h => h.elim)
  have HS5 := Hid.mk' (HS4.out.below HH.out hb5)
  clear hb5 D5 HS4
  go_wp2
  go_ret
  exact ⟨rfl, HK5.out, _, _, HS5.out⟩

/-- Two rows that were made, handed to ApartBytes. -/
theorem two_apart (W : World) (M : Nat) (r1 r2 : Value) (y : List UInt8) (h1 : W.ownsRow M 5 1 r1 y.length (y.map by1)) (h2 : W.ownsRow M 5 1 r2 y.length (y.map by1)) (hs : Nm.Sep r1 r2) (hM : M ≤ W.heap.size) (hy : y.length < 1000000000) :
    Calls Tryd.prog 41 #[.slice (some ⟨W.heap.size, 0, none⟩) 2 2] (W.alloc (.cells #[r1, r2] 33)) fun e w' => e = .returned (.bool true) ∧ Keep (Pk.Wb [r1, r2]) (W.alloc (.cells #[r1, r2] 33)) w' := by
  have hL : Pk.LsR (W.alloc (.cells #[r1, r2] 33)) M W.heap.size [r1, r2] (fun _ => y.length) (fun _ => y.map by1) := by
    refine ⟨fun l hl => ?_, fun l hl => ?_, by simp, by simp; omega⟩
    · match l, hl with
      | 0, _ => exact h1.alloc _
      | 1, _ => exact h2.alloc _
    · rw [cell_of_row _ W.heap.size l _ _ _ (heap_alloc_new W _)]
      match l, hl with
      | 0, _ => rfl
      | 1, _ => rfl
  have hA : Pk.ApartR W.heap.size [r1, r2] := by
    refine ⟨fun l m hl hm hne => ?_, fun l hl e => ?_⟩
    · match l, m, hl, hm, hne with
      | 0, 0, _, _, h => exact absurd rfl h
      | 0, 1, _, _, _ => exact hs
      | 1, 0, _, _, _ => exact hs.symm
      | 1, 1, _, _, h => exact absurd rfl h
    · match l, hl with
      | 0, _ => have := (h1.lt _ e).2; omega
      | 1, _ => have := (h2.lt _ e).2; omega
  refine (Pk.apartY_l [r1, r2] (fun _ => y.length) M W.heap.size 2 _ (W.alloc (.cells #[r1, r2] 33)) hL hA (by simp) (fun _ => hy) (by simp) (by decide)).mono ?_
  rintro e w' ⟨rfl, hk, _⟩
  exact ⟨rfl, hk⟩

set_option maxRecDepth 100000 in
set_option maxHeartbeats 8000000 in
theorem lawload_any {Rep : World → Nat → (Nat → Prop) → Dsk → Prop} (H : Says Rep) (LD : LoadC Rep) (w wr : World) (p g : Nat) (F G : Nat → Prop) (d : Dsk) (a n : Int) (hS : Dp Rep w wr p g F G d d) (hE : Er.Handle w) (hN : Nb d) (ht : d.tr.length ≤ 1000000000) (ha : -9223372036854775808 ≤ a ∧ a ≤ 9223372036854775807) (hn : -9223372036854775808 ≤ n ∧ n ≤ 9223372036854775807) :
    Calls Tryd.prog 16 #[ptr p, ptr g, nu a, nu n] wr fun e w' => e = .returned (.bool true) ∧ Below wr.heap.size wr w' := by
  have hle := load_le d a n
  have hln := load_len d a n hN.n2
  have C1 : Hid (∀ wx, Dp Rep w wx p g F G d d → _) := fun wx h => LD wx p F d a n h.rep hN ht ha hn
  have C2 : Hid (∀ wx, Dp Rep w wx p g F G d d → _) := fun wx h => load_ref w.heap.size wx g G d a n h.ref ⟨hN.n1, hN.n2⟩ ht (fun i => hN.sm.read i)
  obtain ⟨A, hA⟩ : ∃ A, load d a n = A := ⟨_, rfl⟩
  rw [hA] at hle hln C1 C2
  obtain ⟨y, hy⟩ : ∃ y, A.2.2 = y := ⟨_, rfl⟩
  obtain ⟨E, hEe⟩ : ∃ E, A.2.1 = E := ⟨_, rfl⟩
  obtain ⟨c, hc⟩ : ∃ c, A.1 = c := ⟨_, rfl⟩
  rw [hc, hEe] at hle
  rw [hy] at hln
  unfold AnsR at C2
  rw [hy, hEe, hc] at C1 C2
  obtain ⟨m, hm⟩ : ∃ m, y.length = m := ⟨_, rfl⟩
  have cQ : Hid (∀ wx, Er.Handle wx → Calls Tryd.prog 9 #[errE c, nu (c : Int)] wx fun e w' => e = .returned (.bool true) ∧ Below wx.heap.size wx w') := fun wx hg => plainL c hle.1 wx hg
  have cS : Hid (∀ wx u1 u2, RdB wx u1 y → RdB wx u2 y → Calls Tryd.prog 40 #[u1, u2] wx fun e w' => e = .returned (.bool true) ∧ Below wx.heap.size wx w') := fun wx u1 u2 q1 q2 => Pk.sameB_eq u1 u2 y wx q1 q2
  have cA : Hid (∀ (W : World) (M : Nat) (r1 r2 : Value), W.ownsRow M 5 1 r1 y.length (y.map by1) → W.ownsRow M 5 1 r2 y.length (y.map by1) → Nm.Sep r1 r2 → M ≤ W.heap.size → Calls Tryd.prog 41 #[.slice (some ⟨W.heap.size, 0, none⟩) 2 2] (W.alloc (.cells #[r1, r2] 33)) fun e w' => e = .returned (.bool true) ∧ Keep (Pk.Wb [r1, r2]) (W.alloc (.cells #[r1, r2] 33)) w') := fun W M r1 r2 h1 h2 h3 h4 => two_apart W M r1 r2 y h1 h2 h3 h4 (Nat.lt_of_le_of_lt hln (by decide))
  have hEE : ((E : Int) == (E : Int)) = true := by simp
  have HH := Hid.mk' H
  have HE := Hid.mk' hE
  have HS := Hid.mk' hS
  have D1 := Hid.mk' (C1.out wr hS)
  clear hS hE hN ht ha hn hA hy hEe hc hle hln hm H LD
  generalize hen : errE c = en at *
  go_enter Tryd.func16, Tryd.ntmps16
  go_wp2_with fail
  refine D1.out.mono ?_
  rintro e w1 ⟨r1, rfl, ho1, hb1⟩
  have hS1 := HS.out.below HH.out hb1
  have D2 := Hid.mk' (C1.out w1 hS1)
  have HO1 := Hid.mk' ho1
  have HS1 := Hid.mk' hS1
  have HB1 := Hid.mk' hb1
  obtain ⟨a1, k1, rfl, _⟩ := Nm.own_shape ho1
  clear ho1 hb1 hS1 D1 C1
  go_wp2_with fail
  refine D2.out.mono ?_
  rintro e w2 ⟨r2, rfl, ho2, hb2⟩
  have hS2 := HS1.out.below HH.out hb2
  have D3 := Hid.mk' (C2.out w2 hS2)
  have hsep : Nm.Sep (.slice a1 y.length k1) r2 := fun b h1 h2 => by
    have := (HO1.out.lt b h1).2
    have := (ho2.lt b h2).1
    omega
  have HSEP := Hid.mk' hsep
  have HO2 : Hid (w2.ownsRow wr.heap.size 5 1 r2 y.length (y.map by1)) := own_mono ho2 HB1.out.size
  have HO12 := Hid.mk' (ownB HO1.out hb2)
  have HS2 := Hid.mk' hS2
  have HB2 := Hid.mk' (below_fromS HB1.out hb2)
  obtain ⟨a2, k2, rfl, _⟩ := Nm.own_shape ho2
  clear ho2 hb2 hS2 D2 C2 HO1 HS1 HB1 hsep
  go_wp2_with fail
  refine D3.out.mono ?_
  rintro e w3 ⟨r3, rfl, ho3, hb3⟩
  have HS3 := Hid.mk' (HS2.out.below HH.out hb3)
  have HO13 := Hid.mk' (ownB HO12.out hb3)
  have HO23 := Hid.mk' (ownB HO2.out hb3)
  have HR3 := Hid.mk' (own_rd ho3)
  have HB3 := Hid.mk' (below_fromS HB2.out hb3)
  obtain ⟨a3, k3, rfl, _⟩ := Nm.own_shape ho3
  have D4 := Hid.mk' (cS.out w3 _ _ (own_rd HO13.out) HR3.out)
  clear ho3 hb3 D3 HS2 HO12 HO2 HB2
  go_wp2_with fail
  refine D4.out.mono ?_
  rintro e w4 ⟨rfl, hb4⟩
  have HS4 := Hid.mk' (HS3.out.below HH.out hb4)
  have HO14 := Hid.mk' (ownB HO13.out hb4)
  have HO24 := Hid.mk' (ownB HO23.out hb4)
  have HR4 := Hid.mk' (HR3.out.below hb4)
  have HB4 := Hid.mk' (below_fromS HB3.out hb4)
  have D5 := Hid.mk' (cS.out w4 _ _ (own_rd HO24.out) HR4.out)
  clear hb4 D4 HS3 HO13 HO23 HR3 HB3
  go_wp2_with fail
  refine D5.out.mono ?_
  rintro e w5 ⟨rfl, hb5⟩
  have hS5 := HS4.out.below HH.out hb5
  have HS5 := Hid.mk' hS5
  have HO15 := Hid.mk' (ownB HO14.out hb5)
  have HO25 := Hid.mk' (ownB HO24.out hb5)
  have HB5 := Hid.mk' (below_fromS HB4.out hb5)
  have D6 := Hid.mk' (cQ.out w5 (HE.out.below hS5.bel))
  clear hb5 hS5 D5 HS4 HO14 HO24 HR4 HB4
  go_wp2_with fail
  refine D6.out.mono ?_
  rintro e w6 ⟨rfl, hb6⟩
  have hS6 := HS5.out.below HH.out hb6
  have HS6 := Hid.mk' hS6
  have HO16 := Hid.mk' (ownB HO15.out hb6)
  have HO26 := Hid.mk' (ownB HO25.out hb6)
  have HB6 := Hid.mk' (below_fromS HB5.out hb6)
  have D7 := Hid.mk' (cQ.out w6 (HE.out.below hS6.bel))
  clear hb6 hS6 D6 HS5 HO15 HO25 HB5
  go_wp2_with fail
  refine D7.out.mono ?_
  rintro e w7 ⟨rfl, hb7⟩
  have HS7 := Hid.mk' (HS6.out.below HH.out hb7)
  have hO17 := ownB HO16.out hb7
  have hO27 := ownB HO26.out hb7
  have hB7 := below_fromS HB6.out hb7
  have D8 := Hid.mk' (cA.out w7 wr.heap.size _ _ hO17 hO27 HSEP.out hB7.size)
  have HKS : Hid (∀ k, Pk.Wb [.slice a1 y.length k1, .slice a2 y.length k2] k → wr.heap.size ≤ k) := fun k hk => by
    obtain ⟨j, hj, hb⟩ := hk
    match j, hj, hb with
    | 0, _, hb => exact (hO17.lt k hb).1
    | 1, _, hb => exact (hO27.lt k hb).1
  have HB7 := Hid.mk' hB7
  clear hb7 hO17 hO27 hB7 D7 HS6 HO16 HO26 HB6 cA cQ cS
  go_wp2_with fail
  refine D8.out.mono ?_
  rintro e w8 ⟨rfl, hk8⟩
  have HS8 : Hid (Below wr.heap.size wr w8) := by
    have ba : Below w7.heap.size w7 (w7.alloc (.cells #[.slice a1 y.length k1, .slice a2 y.length k2] 33)) := (Below.refl _ _).alloc (Nat.le_refl _) _
    have hb8 := below_fromS HB7.out ba
    exact hb8.trans (hk8.below (fun k hk hc => by have := HKS.out k hc; omega) hb8.size)
  clear hk8 D8
  go_wp2
  go_ret
  exact ⟨rfl, HS8.out⟩
end Ae
end Go.Proofs.YtlgjnefieflmbaaDoor
