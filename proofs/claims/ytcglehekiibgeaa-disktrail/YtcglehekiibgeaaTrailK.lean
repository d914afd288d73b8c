/- Each block has the text of its last raw write; the disk behind all of them reads as this one. -/
import Derived.Test.YtcglehekiibgeaaOneK
namespace Go.Proofs.Ytcglehekiibgeaa
set_option linter.ambiguousOpen false
open Go.RowKit
namespace Dk
open Sm Ft
set_option linter.unusedSimpArgs false
set_option linter.unusedVariables false

/-- Raw writes that a disk of six blocks may have. -/
def Good (l : List Raw) : Prop := ∀ r ∈ l, (0 ≤ r.1 ∧ r.1 < 6) ∧ r.2.length ≤ 256

theorem good_wrD (d : Dsk) (k : Int) (s : List UInt8) (h : Good d.tr) (hn : d.n = 6) (hl : d.left = -1) : Good (wrD d k s).tr ∧ (wrD d k s).n = 6 ∧ (wrD d k s).left = -1 ∧ (wrD d k s).tr.length ≤ d.tr.length + 1 := by
  refine ⟨?_, by rw [wrD_n, hn], ?_, wrD_tr d k s⟩
  · unfold wrD
    split
    · rename_i hw
      intro r hr
      rcases List.mem_append.1 hr with hr | hr
      · exact h r hr
      · obtain rfl : r = (k, s) := by simpa using hr
        unfold wrN at hw
        split at hw
        · rename_i hk
          split at hw
          · omega
          · rename_i hs
            exact ⟨by rw [← hn]; exact hk, by show s.length ≤ 256; omega⟩
        · omega
    · exact h
  · unfold wrD
    split
    · show (if 0 < d.left then d.left - 1 else d.left) = -1
      rw [hl]; rfl
    · exact hl

/-- Two disks, and a row of texts. -/
structure Tw (Rep : World → Nat → (Nat → Prop) → Dsk → Prop) (w wr : World) (p q B : Nat) (F : Nat → Prop) (d : Dsk) (G : Nat → Prop) (e : Dsk) (f : Nat → List UInt8) : Prop where
  on : On Rep w wr p F d
  on2 : On Rep w wr q G e
  ap : ∀ k, F k → ¬ G k
  tx : Tx wr B 42 6 f
  offF : ¬ F B
  offG : ¬ G B
  bb : w.heap.size ≤ B

theorem Tw.below {Rep : World → Nat → (Nat → Prop) → Dsk → Prop} (H : Says Rep) {w wr w' : World} {p q B : Nat} {F : Nat → Prop} {d : Dsk} {G : Nat → Prop} {e : Dsk} {f : Nat → List UInt8} (h : Tw Rep w wr p q B F d G e f) (hb : Below wr.heap.size wr w') : Tw Rep w w' p q B F d G e f :=
  ⟨h.on.below H hb, h.on2.below H hb, h.ap, h.tx.below hb, h.offF, h.offG, h.bb⟩

theorem On.other {Rep : World → Nat → (Nat → Prop) → Dsk → Prop} (H : Says Rep) {w wr : World} {p : Nat} {F : Nat → Prop} {d : Dsk} (h : On Rep w wr p F d) (B k : Nat) (u : Value) (hB : ¬ F B) (hb : w.heap.size ≤ B) : On Rep w (wr.setCell ⟨B, k, none⟩ u) p F d :=
  ⟨H.keep h.rep ((Keep.refl (fun x => x = B) wr).setCell (p := ⟨B, k, none⟩) (.inl rfl) _) (fun x hx e => hB (by rw [← e]; exact hx)), h.fl, h.bel.setCell (p := ⟨B, k, none⟩) hb _⟩

theorem Tw.set {Rep : World → Nat → (Nat → Prop) → Dsk → Prop} (H : Says Rep) {w wr : World} {p q B : Nat} {F : Nat → Prop} {d : Dsk} {G : Nat → Prop} {e : Dsk} {f : Nat → List UInt8} (h : Tw Rep w wr p q B F d G e f) (k : Nat) (s : List UInt8) : Tw Rep w (wr.setCell ⟨B, k, none⟩ (.string (Sm.tx s))) p q B F d G e (fun i => if i = k then s else f i) :=
  ⟨h.on.other H B k _ h.offF h.bb, h.on2.other H B k _ h.offG h.bb, h.ap, h.tx.set k s, h.offF, h.offG, h.bb⟩

theorem Tw.turned {Rep : World → Nat → (Nat → Prop) → Dsk → Prop} (H : Says Rep) {w wr wa : World} {p q B : Nat} {F F' : Nat → Prop} {d d' : Dsk} {G : Nat → Prop} {e : Dsk} {f : Nat → List UInt8} (h : Tw Rep w wr p q B F d G e f) (hr : Rep wa p F' d') (hK : Keep F wr wa) (hg : Goes wr F F') : Tw Rep w wa p q B F' d' G e f := by
  have hO := h.on.turned H hr hK hg
  refine ⟨hO, ⟨H.keep h.on2.rep hK (fun k h1 h2 => h.ap k h2 h1), h.on2.fl, hO.bel⟩, fun k h1 h2 => ?_, h.tx.keep hK h.offF, fun hf => ?_, h.offG, h.bb⟩
  · rcases hg k h1 with h3 | h3
    · exact h.ap k h3 h2
    · have := H.lt h.on2.rep k h2
      omega
  · rcases hg B hf with h3 | h3
    · exact h.offF h3
    · have := h.tx.lt
      omega

theorem zero6s : (#[.string ⟨#[]⟩, .string ⟨#[]⟩, .string ⟨#[]⟩, .string ⟨#[]⟩, .string ⟨#[]⟩, .string ⟨#[]⟩] : Array Value) = arS 6 (fun _ => []) := rfl

theorem lastK_succ (j : Int) (l : List Raw) (i : Nat) (r : Raw) (h : l[i]? = some r) : lastK j l (i + 1) = if r.1 = j then r.2 else lastK j l i := by
  rw [lastK, h]

/-- The state of the loop over the trail. -/
def Row2 (Rep : World → Nat → (Nat → Prop) → Dsk → Prop) (w wr : World) (p q B i : Nat) (F : Nat → Prop) (d : Dsk) (G : Nat → Prop) : Prop := Tw Rep w wr p q B F d G d (fun j => lastK j d.tr i)

theorem Row2.step {Rep : World → Nat → (Nat → Prop) → Dsk → Prop} (H : Says Rep) {w wr : World} {p q B i : Nat} {F : Nat → Prop} {d : Dsk} {G : Nat → Prop} (h : Row2 Rep w wr p q B i F d G) (r : Raw) (hr : d.tr[i]? = some r) (k : Nat) (hk : r.1 = k) : Row2 Rep w (wr.setCell ⟨B, k, none⟩ (.string (tx r.2))) p q B (i + 1) F d G := by
  have h2 := Tw.set H h k r.2
  refine ⟨h2.on, h2.on2, h2.ap, h2.tx.same (fun j hj => ?_), h2.offF, h2.offG, h2.bb⟩
  rw [lastK_succ j d.tr i r hr, hk]
  by_cases e : j = k
  · subst e
    rw [if_pos rfl, if_pos rfl]
  · rw [if_neg e, if_neg (by omega)]

/-- The state of the loop over the blocks. -/
def Blk3 (Rep : World → Nat → (Nat → Prop) → Dsk → Prop) (w wr : World) (p q B k : Nat) (d0 : Dsk) : Prop :=
  ∃ F d G, Tw Rep w wr p q B F d G d0 (fun j => rdT d0 j) ∧ d.n = 6 ∧ d.left = -1 ∧ d.tr.length ≤ 500 + k ∧ ∀ j : Nat, k ≤ j → j < 6 → rdT d j = rdT d0 j

theorem Blk3.wrote {Rep : World → Nat → (Nat → Prop) → Dsk → Prop} (H : Says Rep) {w wr wa : World} {p q B k : Nat} {d0 : Dsk} {F F' : Nat → Prop} {d : Dsk} {G : Nat → Prop} (h : Tw Rep w wr p q B F d G d0 (fun j => rdT d0 j)) (hn : d.n = 6) (hl : d.left = -1) (ht : d.tr.length ≤ 500 + k) (hj : ∀ j : Nat, k ≤ j → j < 6 → rdT d j = rdT d0 j) (hk : k < 6) (s : List UInt8) (hs : s.length ≤ 256)
    (hr : Rep wa p F' (wrD d k s)) (hK : Keep F wr wa) (hg : Goes wr F F') : Blk3 Rep w wa p q B (k + 1) d0 := by
  have hw : wrN d k s = 0 := by
    rw [wrN_in d k s (by rw [hn]; omega) hs, if_neg (by rw [hl]; decide)]
  refine ⟨F', _, G, h.turned H hr hK hg, by rw [wrD_n, hn], ?_, ?_, fun j h1 h2 => ?_⟩
  · unfold wrD
    rw [if_pos hw]
    show (if 0 < d.left then d.left - 1 else d.left) = -1
    rw [hl]; rfl
  · have := wrD_tr d k s
    omega
  · rw [rdT_wrote d k s j hw (by rw [hn]; omega), if_neg (by omega), hj j (by omega) h2]

set_option maxRecDepth 100000 in
set_option maxHeartbeats 8000000 in
theorem diskTrail_says {Rep : World → Nat → (Nat → Prop) → Dsk → Prop} (H : Says Rep) (v : Value) (l : List Raw) (w : World) (hR : RdR w v l) (hf : ∀ r ∈ l, (-9223372036854775808 ≤ r.1 ∧ r.1 ≤ 9223372036854775807) ∧ r.2.length ≤ 140737488351232) :
    Calls Try.prog 4 #[v] w fun e w' => e = .returned (.bool true) ∧ Below w.heap.size w w' := by
  have HH := Hid.mk' H
  have HF := Hid.mk' hf
  obtain ⟨a, cap, rfl, hl1, hl2, hcell⟩ := hR
  have HC := Hid.mk' hcell
  unfold maxLen at hl2
  have c0 := works_says H w
  clear hf hcell H
  go_enter Try.func4, Try.ntmps4
  go_wp2_with fail
  refine c0.mono ?_
  rintro e w1 ⟨rfl, hb1⟩
  have c1 := HH.out.newYes 6 w1 (by decide) (by decide)
  have HB1 := Hid.mk' hb1
  clear c0 hb1
  go_wp2_with fail
  refine c1.mono ?_
  rintro e w2 ⟨p, F, rfl, hRep, hF, hb2⟩
  have HO2 : Hid (On Rep w w2 p F ⟨6, -1, []⟩) := ⟨hRep, fun k hk => Nat.le_trans HB1.out.size (hF k hk), below_go HB1.out hb2⟩
  clear c1 hRep hF hb2 HB1
  go_wp2
  go_loopw [5] (fun iv wr => ∃ i : Nat, i ≤ l.length ∧ i ≤ 500 ∧ iv = nu i ∧ Hid (∃ F d, On Rep w wr p F d ∧ Good d.tr ∧ d.n = 6 ∧ d.left = -1 ∧ d.tr.length ≤ i)) (fun iv _ => l.length - (intOf iv).toNat)
  case atStart => exact ⟨0, Nat.zero_le _, by omega, rfl, ⟨_, _, HO2.out, fun r hr => by simp at hr, rfl, rfl, Nat.le_refl _⟩⟩
  case round =>
    obtain ⟨i, hi, hi5, rfl, hG⟩ := hrel
    clear HO2
    obtain ⟨F1, d1, hO, hgd, hn6, hlf, htl⟩ := hG.out
    have HO := Hid.mk' hO
    have HGD := Hid.mk' hgd
    clear hG
    by_cases hq : i < l.length
    · by_cases hq5 : i < 500
      · obtain ⟨r, hr⟩ : ∃ r, l[i]? = some r := ⟨_, List.getElem?_eq_getElem hq⟩
        obtain ⟨g, o, rfl, hg, hc⟩ := HC.out (by omega)
        obtain ⟨q0, q1⟩ := hc i r hr
        rw [← hO.bel.cell (p := ⟨g, o + i * 2, none⟩) hg] at q0
        rw [← hO.bel.cell (p := ⟨g, o + i * 2 + 1, none⟩) hg] at q1
        obtain ⟨f1, f2⟩ := HF.out r (List.mem_of_getElem? hr)
        have hgw : Hid (g < w.heap.size) := hg
        have c3 : Hid (∀ wx, wx = wr.drew → Calls Try.prog 11 #[ptr p, nu r.1, .string (tx r.2)] wx fun e w' => e = .returned (errE (wrN d1 r.1 r.2)) ∧ (∃ F d, On Rep w w' p F d ∧ Good d.tr ∧ d.n = 6 ∧ d.left = -1 ∧ d.tr.length ≤ i + 1) ∧ (w'.cell? ⟨g, o + i * 2, none⟩ = some (nu r.1) ∧ w'.cell? ⟨g, o + i * 2 + 1, none⟩ = some (.string (tx r.2)))) := fun wx hwx => by
          subst hwx
          have hOd : On Rep w wr.drew p F1 d1 := HO.out.below HH.out (Below.refl _ _).drew
          refine (HH.out.write _ p F1 d1 r.1 r.2 hOd.rep (by omega) f1 (by unfold maxLen; omega)).mono ?_
          rintro e w' ⟨rfl, F', a1, a2, a3⟩
          obtain ⟨b1, b2, b3, b4⟩ := good_wrD d1 r.1 r.2 HGD.out hn6 hlf
          have hO' := hOd.turned HH.out a1 a2 a3
          have hnF : ¬ F1 g := fun hf => by
            have := hOd.fl g hf
            have := hgw.out
            omega
          have hgl : g < wr.drew.heap.size := Nat.lt_of_lt_of_le hgw.out hOd.bel.size
          exact ⟨rfl, ⟨F', _, hO', b1, b2, b3, by omega⟩, (a2.cell (p := ⟨g, o + i * 2, none⟩) hgl hnF).trans q0, (a2.cell (p := ⟨g, o + i * 2 + 1, none⟩) hgl hnF).trans q1⟩
        have z0 : (0 : Int) ≤ (i : Int) := by omega
        have z1 : (i : Int) < (l.length : Int) := by omega
        have z5 : (i : Int) < 500 := by omega
        have hS1 : wr.drew.cell? ⟨g, o + i * 2, none⟩ = some (nu r.1) ∧ wr.drew.cell? ⟨g, o + i * 2 + 1, none⟩ = some (.string (tx r.2)) := ⟨q0, q1⟩
        clear hr hc f1 f2 hO hgd
        generalize errE (wrN d1 r.1 r.2) = en at *
        generalize r.1 = rb at *
        generalize tx r.2 = rt at *
        go_wp2_with fail
        go_region_held3 (fun w' => w'.cell? ⟨g, o + i * 2, none⟩ = some (nu rb) ∧ w'.cell? ⟨g, o + i * 2 + 1, none⟩ = some (.string rt)) (first | assumption | fail) (first | (go_at_call 11; with_reducible refine (c3.out _ rfl).mono ?_; rintro e wa ⟨rfl, hSt, hSa⟩) | fail)
        have HSt := Hid.mk' hSt
        clear hSt hSa hS1 c3 q0 q1
        go_wp2
        go_roundw
        case rel => exact ⟨i + 1, by omega, by omega, vj (by omega), HSt⟩
        case measure => simp [intOf]; omega
      · have hi500 : i = 500 := by omega
        have z1 : (i : Int) < (l.length : Int) := by omega
        have z5 : ¬ (i : Int) < 500 := by omega
        have zz : 500 < (l.length : Int) := by omega
        have c4 := HH.out.trail wr p F1 d1 hO.rep (by omega)
        clear hO hgd
        go_wp2_with fail
        refine c4.mono ?_
        rintro e wt ⟨tv, rfl, ho4, hb4⟩
        obtain ⟨ta, tc, a', ht1, ht2, ht3⟩ : ∃ ta tc, ∃ _ : True, tv = .slice ta d1.tr.length tc ∧ d1.tr.length ≤ tc ∧ tc ≤ maxLen := by
          obtain ⟨x1, x2, x3, x4, x5, _⟩ := own_rdR ho4
          exact ⟨x1, x2, trivial, x3, x4, x5⟩
        subst ht1
        have hRt := Hid.mk' (own_rdR ho4)
        have HOt := Hid.mk' (HO.out.below HH.out hb4)
        unfold maxLen at ht3
        have hd1 : Hid ((⟨d1.n, -1, d1.tr.take d1.tr.length⟩ : Dsk) = d1) := by
          show _ = _
          rw [List.take_length]
          cases d1
          simp_all
        have c5 := HH.out.afterYes wt p F1 d1 d1.tr.length HOt.out.rep (by omega) (Nat.le_refl _)
        rw [hd1.out] at c5
        clear c4 ho4 hb4 HO a'
        go_wp2_with fail
        refine c5.mono ?_
        rintro e w6 ⟨q, G, rfl, hRep6, hG6, hb6⟩
        have HOp := Hid.mk' (HOt.out.below HH.out hb6)
        have HOq : Hid (On Rep w w6 q G d1) := ⟨hRep6, fun k hk => Nat.le_trans HOt.out.bel.size (hG6 k hk), HOp.out.bel⟩
        have hap : Hid (∀ k, F1 k → ¬ G k) := fun k h1 h2 => by
          have h3 := HH.out.lt HOt.out.rep k h1
          have h4 := hG6 k h2
          omega
        have HB6 : Hid (Below wt.heap.size wt w6) := hb6
        have c6 := HH.out.writes w6 p F1 d1 HOp.out.rep (by omega)
        have hqq : ((d1.tr.length : Int) != (d1.tr.length : Int)) = false := by simp
        clear c5 hRep6 hG6 hb6 HOt
        go_wp2_with fail
        refine c6.mono ?_
        rintro e w7 ⟨rfl, hb7⟩
        have hb8 : Below w7.heap.size w7 (w7.alloc (.cells #[.string ⟨#[]⟩, .string ⟨#[]⟩, .string ⟨#[]⟩, .string ⟨#[]⟩, .string ⟨#[]⟩, .string ⟨#[]⟩] 42)) := (Below.refl _ _).alloc (Nat.le_refl _) _
        have hb78 := below_go hb7 hb8
        have hR8 : Hid (Row2 Rep w (w7.alloc (.cells #[.string ⟨#[]⟩, .string ⟨#[]⟩, .string ⟨#[]⟩, .string ⟨#[]⟩, .string ⟨#[]⟩, .string ⟨#[]⟩] 42)) p q w7.heap.size 0 F1 d1 G) := by
          refine ⟨HOp.out.below HH.out hb78, HOq.out.below HH.out hb78, hap.out, ?_, fun hf => ?_, fun hf => ?_, (HOp.out.below HH.out hb7).bel.size⟩
          · rw [zero6s]
            have : Tx (w7.alloc (.cells (arS 6 (fun _ => [])) 42)) w7.heap.size 42 6 (fun _ => []) := heap_alloc_new _ _
            exact this.same (fun j hj => rfl)
          · have h1 := HH.out.lt (HOp.out.below HH.out hb7).rep _ hf
            omega
          · have h1 := HH.out.lt (HOq.out.below HH.out hb7).rep _ hf
            omega
        have HB8 := Hid.mk' (below_go HB6.out hb78)
        have hwtB : Hid (wt.heap.size ≤ w7.heap.size) := Nat.le_trans HB6.out.size hb7.size
        clear c6 hb7 hb8 hb78 HOp HOq hap HB6
        go_wp2
        go_loopw [9] (fun iv wr => ∃ i : Nat, i ≤ d1.tr.length ∧ iv = nu i ∧ Hid (Row2 Rep w wr p q w7.heap.size i F1 d1 G) ∧ Hid (Below wt.heap.size wt wr)) (fun iv _ => d1.tr.length - (intOf iv).toNat)
        case atStart => exact ⟨0, Nat.zero_le _, rfl, hR8, HB8⟩
        case round =>
          obtain ⟨x, hx, rfl, hR9, hB9⟩ := hrel
          clear hR8 HB8
          by_cases hxt : x < d1.tr.length
          · obtain ⟨r, hr⟩ : ∃ r, d1.tr[x]? = some r := ⟨_, List.getElem?_eq_getElem hxt⟩
            obtain ⟨a2, cap2, e2, _, _, hcc⟩ := hRt.out
            obtain ⟨g, o, ea, hg, hc⟩ := hcc (by omega)
            obtain rfl : ta = some ⟨g, o, none⟩ := by
              simp only [Value.slice.injEq] at e2
              rw [e2.1]; exact ea
            obtain ⟨q0, q1⟩ := hc x r hr
            rw [← hB9.out.cell (p := ⟨g, o + x * 2, none⟩) hg] at q0
            rw [← hB9.out.cell (p := ⟨g, o + x * 2 + 1, none⟩) hg] at q1
            obtain ⟨⟨r0, r6⟩, rl⟩ := HGD.out r (List.mem_of_getElem? hr)
            obtain ⟨k, hk⟩ : ∃ k : Nat, r.1 = k := ⟨r.1.toNat, by omega⟩
            have hk6 : (k : Int) < 6 := by omega
            have hk0 : (0 : Int) ≤ (k : Int) := by omega
            have b0 := hR9.out.tx.cell k (by omega)
            have bf := hR9.out.tx.free
            have hNx := Hid.mk' (hR9.out.step HH.out r hr k hk)
            have hBx : Hid (Below wt.heap.size wt (wr.setCell ⟨w7.heap.size, k, none⟩ (.string (tx r.2)))) := hB9.out.setCell (p := ⟨w7.heap.size, k, none⟩) hwtB.out _
            have hsz : (tx r.2).size ≤ 256 := rl
            rw [hk] at q0
            have z0 : (0 : Int) ≤ (x : Int) := by omega
            have z1 : (x : Int) < (d1.tr.length : Int) := by omega
            generalize tx (lastK (k : Int) d1.tr x) = old at *
            generalize tx r.2 = rt at *
            clear hr hc hcc e2 ea hk r0 r6 rl hR9 hB9
            go_wp2_with fail
            go_region
            have hNx2 : Hid (Row2 Rep w (wr.setCell ⟨w7.heap.size, k, none⟩ (.string rt)).drew p q w7.heap.size (x + 1) F1 d1 G) := Tw.below HH.out hNx.out (Below.refl _ _).drew
            have hBx2 : Hid (Below wt.heap.size wt (wr.setCell ⟨w7.heap.size, k, none⟩ (.string rt)).drew) := hBx.out.drew
            clear q0 q1 b0 bf hNx hBx
            go_wp2
            go_roundw
            case rel => exact ⟨x + 1, by omega, vj (by omega), hNx2, hBx2⟩
            case measure => simp [intOf]; omega
          · obtain rfl : x = d1.tr.length := by omega
            have hB10 : Hid (Blk3 Rep w wr p q w7.heap.size 0 d1) := by
              refine ⟨F1, d1, G, ⟨hR9.out.on, hR9.out.on2, hR9.out.ap, hR9.out.tx.same (fun j hj => ?_), hR9.out.offF, hR9.out.offG, hR9.out.bb⟩, hn6, hlf, by omega, fun j _ _ => rfl⟩
              show lastK (j : Int) d1.tr d1.tr.length = rdT d1 j
              unfold rdT
              rw [if_pos (by rw [hn6]; omega)]
            clear hR9 hB9
            go_wp2
            rename World => w10
            go_loopw [10, 11, 12, 13, 14] (fun kv _ _ _ _ wr => ∃ k : Nat, k ≤ 6 ∧ kv = nu k ∧ Hid (Blk3 Rep w wr p q w7.heap.size k d1)) (fun kv _ _ _ _ _ => 6 - (intOf kv).toNat)
            case atStart => exact ⟨0, by omega, rfl, hB10⟩
            case round =>
              obtain ⟨k, hk, rfl, hB11⟩ := hrel
              clear hB10
              obtain ⟨F5, d5, G5, hT, n5, l5, t5, j5⟩ := hB11.out
              have HT := Hid.mk' hT
              have HJ5 := Hid.mk' j5
              clear hB11
              by_cases hk6 : k < 6
              · have c7 := HH.out.read wr p F5 d5 k hT.on.rep (by omega) (by omega)
                rw [rdN_in d5 k (by rw [n5]; omega), j5 k (Nat.le_refl _) hk6] at c7
                have c8 : Hid (∀ wx, Below wr.heap.size wr wx → Calls Try.prog 11 #[ptr p, nu k, .string ⟨#[111, 116, 104, 101, 114]⟩] wx fun e w' => e = .returned .nilIface ∧ Blk3 Rep w w' p q w7.heap.size (k + 1) d1) := fun wx hbx => by
                  have hTx := HT.out.below HH.out hbx
                  have hw0 : wrN d5 k [111, 116, 104, 101, 114] = 0 := by
                    rw [wrN_in d5 k _ (by rw [n5]; omega) (by decide), if_neg (by rw [l5]; decide)]
                  have c := HH.out.write wx p F5 d5 k [111, 116, 104, 101, 114] hTx.on.rep (by omega) (by omega) (by decide)
                  rw [hw0] at c
                  refine c.mono ?_
                  rintro e w' ⟨rfl, F', a1, a2, a3⟩
                  exact ⟨rfl, Blk3.wrote HH.out hTx n5 l5 t5 HJ5.out hk6 _ (by decide) a1 a2 a3⟩
                have c9 : Hid (∀ wx, Blk3 Rep w wx p q w7.heap.size (k + 1) d1 → wx.cell? ⟨w7.heap.size, k, none⟩ = some (.string (tx (rdT d1 k))) ∧ Calls Try.prog 13 #[ptr q, nu k] wx fun e w' => e = .returned (.tuple #[.string (tx (rdT d1 k)), .nilIface]) ∧ (Blk3 Rep w w' p q w7.heap.size (k + 1) d1 ∧ w'.cell? ⟨w7.heap.size, k, none⟩ = some (.string (tx (rdT d1 k))))) := fun wx ⟨F8, d8, G8, hT8, n8, l8, t8, j8⟩ => by
                  refine ⟨hT8.tx.cell k hk6, ?_⟩
                  have c := HH.out.read wx q G8 d1 k hT8.on2.rep (by omega) (by omega)
                  rw [rdN_in d1 k (by rw [hn6]; omega)] at c
                  refine c.mono ?_
                  rintro e w' ⟨rfl, hb⟩
                  have hT9 := hT8.below HH.out hb
                  exact ⟨rfl, ⟨F8, d8, G8, hT9, n8, l8, t8, j8⟩, hT9.tx.cell k hk6⟩
                have hcl : Hid (∀ wx, Below wr.heap.size wr wx → wx.cell? ⟨w7.heap.size, k, none⟩ = some (.string (tx (rdT d1 k)))) := fun wx hb => (HT.out.below HH.out hb).tx.cell k hk6
                unfold errE at c7
                have zk : (k : Int) < 6 := by omega
                have zk0 : (0 : Int) ≤ (k : Int) := by omega
                clear hT j5 HJ5
                generalize tx (rdT d1 k) = ft at *
                go_wp2_with fail
                refine c7.mono ?_
                rintro e wa ⟨rfl, hba⟩
                have y1 := hcl.out wa hba
                have c10 := c8.out wa hba
                clear c7 c8 hba hcl HT
                go_wp2_with fail
                refine c10.mono ?_
                rintro e wb ⟨rfl, hBb⟩
                obtain ⟨y2, c11⟩ := c9.out wb hBb
                clear c10 c9 hBb y1
                go_wp2_with fail
                refine c11.mono ?_
                rintro e wc ⟨rfl, hBc, y3⟩
                have HBc := Hid.mk' hBc
                clear c11 hBc y2
                go_wp2
                go_roundw
                case rel => exact ⟨k + 1, by omega, vj (by omega), HBc⟩
                case measure => simp [intOf]; omega
              · obtain rfl : k = 6 := by omega
                simp only [Int.cast_ofNat_Int]
                have HBL := Hid.mk' hT.on.bel
                clear hT j5 HT HJ5
                go_wp2
                go_ret
                exact ⟨rfl, HBL.out⟩
    · have hil : i = l.length := by omega
      have z1 : ¬ (i : Int) < (l.length : Int) := by omega
      have zz : ¬ 500 < (l.length : Int) := by omega
      have zy : (d1.tr.length : Int) ≤ (l.length : Int) := by omega
      have c4 := HH.out.trail wr p F1 d1 hO.rep (by omega)
      clear hO hgd
      go_wp2_with fail
      refine c4.mono ?_
      rintro e wt ⟨tv, rfl, ho4, hb4⟩
      obtain ⟨ta, tc, a', ht1, ht2, ht3⟩ : ∃ ta tc, ∃ _ : True, tv = .slice ta d1.tr.length tc ∧ d1.tr.length ≤ tc ∧ tc ≤ maxLen := by
        obtain ⟨x1, x2, x3, x4, x5, _⟩ := own_rdR ho4
        exact ⟨x1, x2, trivial, x3, x4, x5⟩
      subst ht1
      have hRt := Hid.mk' (own_rdR ho4)
      have HOt := Hid.mk' (HO.out.below HH.out hb4)
      unfold maxLen at ht3
      have hd1 : Hid ((⟨d1.n, -1, d1.tr.take d1.tr.length⟩ : Dsk) = d1) := by
        show _ = _
        rw [List.take_length]
        cases d1
        simp_all
      have c5 := HH.out.afterYes wt p F1 d1 d1.tr.length HOt.out.rep (by omega) (Nat.le_refl _)
      rw [hd1.out] at c5
      clear c4 ho4 hb4 HO a'
      go_wp2_with fail
      refine c5.mono ?_
      rintro e w6 ⟨q, G, rfl, hRep6, hG6, hb6⟩
      have HOp := Hid.mk' (HOt.out.below HH.out hb6)
      have HOq : Hid (On Rep w w6 q G d1) := ⟨hRep6, fun k hk => Nat.le_trans HOt.out.bel.size (hG6 k hk), HOp.out.bel⟩
      have hap : Hid (∀ k, F1 k → ¬ G k) := fun k h1 h2 => by
        have h3 := HH.out.lt HOt.out.rep k h1
        have h4 := hG6 k h2
        omega
      have HB6 : Hid (Below wt.heap.size wt w6) := hb6
      have c6 := HH.out.writes w6 p F1 d1 HOp.out.rep (by omega)
      have hqq : ((d1.tr.length : Int) != (d1.tr.length : Int)) = false := by simp
      clear c5 hRep6 hG6 hb6 HOt
      go_wp2_with fail
      refine c6.mono ?_
      rintro e w7 ⟨rfl, hb7⟩
      have hb8 : Below w7.heap.size w7 (w7.alloc (.cells #[.string ⟨#[]⟩, .string ⟨#[]⟩, .string ⟨#[]⟩, .string ⟨#[]⟩, .string ⟨#[]⟩, .string ⟨#[]⟩] 42)) := (Below.refl _ _).alloc (Nat.le_refl _) _
      have hb78 := below_go hb7 hb8
      have hR8 : Hid (Row2 Rep w (w7.alloc (.cells #[.string ⟨#[]⟩, .string ⟨#[]⟩, .string ⟨#[]⟩, .string ⟨#[]⟩, .string ⟨#[]⟩, .string ⟨#[]⟩] 42)) p q w7.heap.size 0 F1 d1 G) := by
        refine ⟨HOp.out.below HH.out hb78, HOq.out.below HH.out hb78, hap.out, ?_, fun hf => ?_, fun hf => ?_, (HOp.out.below HH.out hb7).bel.size⟩
        · rw [zero6s]
          have : Tx (w7.alloc (.cells (arS 6 (fun _ => [])) 42)) w7.heap.size 42 6 (fun _ => []) := heap_alloc_new _ _
          exact this.same (fun j hj => rfl)
        · have h1 := HH.out.lt (HOp.out.below HH.out hb7).rep _ hf
          omega
        · have h1 := HH.out.lt (HOq.out.below HH.out hb7).rep _ hf
          omega
      have HB8 := Hid.mk' (below_go HB6.out hb78)
      have hwtB : Hid (wt.heap.size ≤ w7.heap.size) := Nat.le_trans HB6.out.size hb7.size
      clear c6 hb7 hb8 hb78 HOp HOq hap HB6
      go_wp2
      go_loopw [9] (fun iv wr => ∃ i : Nat, i ≤ d1.tr.length ∧ iv = nu i ∧ Hid (Row2 Rep w wr p q w7.heap.size i F1 d1 G) ∧ Hid (Below wt.heap.size wt wr)) (fun iv _ => d1.tr.length - (intOf iv).toNat)
      case atStart => exact ⟨0, Nat.zero_le _, rfl, hR8, HB8⟩
      case round =>
        obtain ⟨x, hx, rfl, hR9, hB9⟩ := hrel
        clear hR8 HB8
        by_cases hxt : x < d1.tr.length
        · obtain ⟨r, hr⟩ : ∃ r, d1.tr[x]? = some r := ⟨_, List.getElem?_eq_getElem hxt⟩
          obtain ⟨a2, cap2, e2, _, _, hcc⟩ := hRt.out
          obtain ⟨g, o, ea, hg, hc⟩ := hcc (by omega)
          obtain rfl : ta = some ⟨g, o, none⟩ := by
            simp only [Value.slice.injEq] at e2
            rw [e2.1]; exact ea
          obtain ⟨q0, q1⟩ := hc x r hr
          rw [← hB9.out.cell (p := ⟨g, o + x * 2, none⟩) hg] at q0
          rw [← hB9.out.cell (p := ⟨g, o + x * 2 + 1, none⟩) hg] at q1
          obtain ⟨⟨r0, r6⟩, rl⟩ := HGD.out r (List.mem_of_getElem? hr)
          obtain ⟨k, hk⟩ : ∃ k : Nat, r.1 = k := ⟨r.1.toNat, by omega⟩
          have hk6 : (k : Int) < 6 := by omega
          have hk0 : (0 : Int) ≤ (k : Int) := by omega
          have b0 := hR9.out.tx.cell k (by omega)
          have bf := hR9.out.tx.free
          have hNx := Hid.mk' (hR9.out.step HH.out r hr k hk)
          have hBx : Hid (Below wt.heap.size wt (wr.setCell ⟨w7.heap.size, k, none⟩ (.string (tx r.2)))) := hB9.out.setCell (p := ⟨w7.heap.size, k, none⟩) hwtB.out _
          have hsz : (tx r.2).size ≤ 256 := rl
          rw [hk] at q0
          have z0 : (0 : Int) ≤ (x : Int) := by omega
          have z1 : (x : Int) < (d1.tr.length : Int) := by omega
          generalize tx (lastK (k : Int) d1.tr x) = old at *
          generalize tx r.2 = rt at *
          clear hr hc hcc e2 ea hk r0 r6 rl hR9 hB9
          go_wp2_with fail
          go_region
          have hNx2 : Hid (Row2 Rep w (wr.setCell ⟨w7.heap.size, k, none⟩ (.string rt)).drew p q w7.heap.size (x + 1) F1 d1 G) := Tw.below HH.out hNx.out (Below.refl _ _).drew
          have hBx2 : Hid (Below wt.heap.size wt (wr.setCell ⟨w7.heap.size, k, none⟩ (.string rt)).drew) := hBx.out.drew
          clear q0 q1 b0 bf hNx hBx
          go_wp2
          go_roundw
          case rel => exact ⟨x + 1, by omega, vj (by omega), hNx2, hBx2⟩
          case measure => simp [intOf]; omega
        · obtain rfl : x = d1.tr.length := by omega
          have hB10 : Hid (Blk3 Rep w wr p q w7.heap.size 0 d1) := by
            refine ⟨F1, d1, G, ⟨hR9.out.on, hR9.out.on2, hR9.out.ap, hR9.out.tx.same (fun j hj => ?_), hR9.out.offF, hR9.out.offG, hR9.out.bb⟩, hn6, hlf, by omega, fun j _ _ => rfl⟩
            show lastK (j : Int) d1.tr d1.tr.length = rdT d1 j
            unfold rdT
            rw [if_pos (by rw [hn6]; omega)]
          clear hR9 hB9
          go_wp2
          rename World => w10
          go_loopw [10, 11, 12, 13, 14] (fun kv _ _ _ _ wr => ∃ k : Nat, k ≤ 6 ∧ kv = nu k ∧ Hid (Blk3 Rep w wr p q w7.heap.size k d1)) (fun kv _ _ _ _ _ => 6 - (intOf kv).toNat)
          case atStart => exact ⟨0, by omega, rfl, hB10⟩
          case round =>
            obtain ⟨k, hk, rfl, hB11⟩ := hrel
            clear hB10
            obtain ⟨F5, d5, G5, hT, n5, l5, t5, j5⟩ := hB11.out
            have HT := Hid.mk' hT
            have HJ5 := Hid.mk' j5
            clear hB11
            by_cases hk6 : k < 6
            · have c7 := HH.out.read wr p F5 d5 k hT.on.rep (by omega) (by omega)
              rw [rdN_in d5 k (by rw [n5]; omega), j5 k (Nat.le_refl _) hk6] at c7
              have c8 : Hid (∀ wx, Below wr.heap.size wr wx → Calls Try.prog 11 #[ptr p, nu k, .string ⟨#[111, 116, 104, 101, 114]⟩] wx fun e w' => e = .returned .nilIface ∧ Blk3 Rep w w' p q w7.heap.size (k + 1) d1) := fun wx hbx => by
                have hTx := HT.out.below HH.out hbx
                have hw0 : wrN d5 k [111, 116, 104, 101, 114] = 0 := by
                  rw [wrN_in d5 k _ (by rw [n5]; omega) (by decide), if_neg (by rw [l5]; decide)]
                have c := HH.out.write wx p F5 d5 k [111, 116, 104, 101, 114] hTx.on.rep (by omega) (by omega) (by decide)
                rw [hw0] at c
                refine c.mono ?_
                rintro e w' ⟨rfl, F', a1, a2, a3⟩
                exact ⟨rfl, Blk3.wrote HH.out hTx n5 l5 t5 HJ5.out hk6 _ (by decide) a1 a2 a3⟩
              have c9 : Hid (∀ wx, Blk3 Rep w wx p q w7.heap.size (k + 1) d1 → wx.cell? ⟨w7.heap.size, k, none⟩ = some (.string (tx (rdT d1 k))) ∧ Calls Try.prog 13 #[ptr q, nu k] wx fun e w' => e = .returned (.tuple #[.string (tx (rdT d1 k)), .nilIface]) ∧ (Blk3 Rep w w' p q w7.heap.size (k + 1) d1 ∧ w'.cell? ⟨w7.heap.size, k, none⟩ = some (.string (tx (rdT d1 k))))) := fun wx ⟨F8, d8, G8, hT8, n8, l8, t8, j8⟩ => by
                refine ⟨hT8.tx.cell k hk6, ?_⟩
                have c := HH.out.read wx q G8 d1 k hT8.on2.rep (by omega) (by omega)
                rw [rdN_in d1 k (by rw [hn6]; omega)] at c
                refine c.mono ?_
                rintro e w' ⟨rfl, hb⟩
                have hT9 := hT8.below HH.out hb
                exact ⟨rfl, ⟨F8, d8, G8, hT9, n8, l8, t8, j8⟩, hT9.tx.cell k hk6⟩
              have hcl : Hid (∀ wx, Below wr.heap.size wr wx → wx.cell? ⟨w7.heap.size, k, none⟩ = some (.string (tx (rdT d1 k)))) := fun wx hb => (HT.out.below HH.out hb).tx.cell k hk6
              unfold errE at c7
              have zk : (k : Int) < 6 := by omega
              have zk0 : (0 : Int) ≤ (k : Int) := by omega
              clear hT j5 HJ5
              generalize tx (rdT d1 k) = ft at *
              go_wp2_with fail
              refine c7.mono ?_
              rintro e wa ⟨rfl, hba⟩
              have y1 := hcl.out wa hba
              have c10 := c8.out wa hba
              clear c7 c8 hba hcl HT
              go_wp2_with fail
              refine c10.mono ?_
              rintro e wb ⟨rfl, hBb⟩
              obtain ⟨y2, c11⟩ := c9.out wb hBb
              clear c10 c9 hBb y1
              go_wp2_with fail
              refine c11.mono ?_
              rintro e wc ⟨rfl, hBc, y3⟩
              have HBc := Hid.mk' hBc
              clear c11 hBc y2
              go_wp2
              go_roundw
              case rel => exact ⟨k + 1, by omega, vj (by omega), HBc⟩
              case measure => simp [intOf]; omega
            · obtain rfl : k = 6 := by omega
              simp only [Int.cast_ofNat_Int]
              have HBL := Hid.mk' hT.on.bel
              clear hT j5 HT HJ5
              go_wp2
              go_ret
              exact ⟨rfl, HBL.out⟩
end Dk
end Go.Proofs.Ytcglehekiibgeaa
