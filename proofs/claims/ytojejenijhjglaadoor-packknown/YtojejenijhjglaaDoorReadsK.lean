/- PackReads. -/
import Derived.Test.YtojejenijhjglaaDoorPackP
import Derived.Test.YtojejenijhjglaaDoorPlace
namespace Go.Proofs.YtojejenijhjglaaDoor
set_option linter.ambiguousOpen false
open Go.RowKit
namespace Pk
open Sm Ft
set_option linter.unusedSimpArgs false
set_option linter.unusedVariables false
variable {RW RR : World → Nat → (Nat → Prop) → List UInt8 → Prop}

theorem plainE (n : Nat) (h : n ≤ 24) (w : World) (hg : Er.Handle w) : Calls Tryd.prog 10 #[errE n, nu n] w fun e w' => e = .returned (.bool true) ∧ Below w.heap.size w w' := by
  cases n with
  | zero => exact Er.plain_nil 0 w
  | succ n =>
    have := Er.plain_no (n + 1) ((n + 1 : Nat) : Int) (by omega) h w hg
    rw [decide_eq_true rfl] at this
    exact this

theorem rdB_keep {F : Nat → Prop} {w w' : World} {v : Value} {l : List UInt8} (h : RdB w v l) (hk : Keep F w w') (hn : ∀ g, v.ownBlock = some g → ¬ F g) : RdB w' v l := by
  obtain ⟨a, cap, rfl, h1, h2, h3⟩ := h
  refine ⟨a, cap, rfl, h1, h2, fun h0 => ?_⟩
  obtain ⟨g, o, rfl, hg, hc⟩ := h3 h0
  exact ⟨g, o, rfl, Nat.lt_of_lt_of_le hg hk.size, fun j hj => (hk.cell (p := ⟨g, o + j, none⟩) hg (hn g rfl)).trans (hc j hj)⟩

/-- A reader that this call made, and beside it a row of bytes that it doesn't touch. -/
def Rs (RR : World → Nat → (Nat → Prop) → List UInt8 → Prop) (w0 w : World) (p : Nat) (rest : List UInt8) (rv : Value) (l : List UInt8) : Prop :=
  ∃ F, RR w p F rest ∧ (∀ k, F k → w0.heap.size ≤ k) ∧ Below w0.heap.size w0 w ∧ RdB w rv l ∧ (∀ g, rv.ownBlock = some g → ¬ F g ∧ g < w.heap.size)

theorem rs_below {w0 w : World} {p : Nat} {rest l : List UInt8} {rv : Value} (h : Rs RR w0 w p rest rv l) : Below w0.heap.size w0 w := by
  obtain ⟨F, _, _, h3, _⟩ := h
  exact h3

theorem rs_rd {w0 w : World} {p : Nat} {rest l : List UInt8} {rv : Value} (h : Rs RR w0 w p rest rv l) : RdB w rv l := by
  obtain ⟨F, _, _, _, h4, _⟩ := h
  exact h4

theorem rs_keep (S : Says RW RR) {w0 w w' : World} {p : Nat} {rest l : List UInt8} {rv : Value} (h : Rs RR w0 w p rest rv l) (hb : Below w.heap.size w w') : Rs RR w0 w' p rest rv l := by
  obtain ⟨F, h1, h2, h3, h4, h5⟩ := h
  exact ⟨F, S.keepR h1 (Keep.of_below (F := fun _ => False) hb) (fun _ _ h => h), h2, h3.trans (hb.mono h3.size), h4.below hb, fun g hg => ⟨(h5 g hg).1, Nat.lt_of_lt_of_le (h5 g hg).2 hb.size⟩⟩

theorem rs_turn {w0 w w' : World} {p : Nat} {rest' l : List UInt8} {rv : Value} {F F' : Nat → Prop} (h2 : ∀ k, F k → w0.heap.size ≤ k) (h3 : Below w0.heap.size w0 w) (h4 : RdB w rv l) (h5 : ∀ g, rv.ownBlock = some g → ¬ F g ∧ g < w.heap.size) (hr : RR w' p F' rest') (hk : Keep F w w') (hg : Goes w F F') : Rs RR w0 w' p rest' rv l := by
  refine ⟨F', hr, goesF h3 h2 hg, Keep.belowF h3 hk h2, rdB_keep h4 hk (fun g hg => (h5 g hg).1), fun g hg2 => ⟨fun hf => ?_, Nat.lt_of_lt_of_le (h5 g hg2).2 hk.size⟩⟩
  rcases hg g hf with h | h
  · exact (h5 g hg2).1 h
  · have := (h5 g hg2).2
    omega

theorem rnum_rs (S : Says RW RR) (w0 w : World) (p : Nat) (rest l : List UInt8) (rv : Value) (h : Rs RR w0 w p rest rv l) : Calls Tryd.prog 14 #[ptr p] w fun e w' => e = .returned (.tuple #[u6 (num rest).1, errE (num rest).2.2]) ∧ Rs RR w0 w' p (rest.drop (num rest).2.1) rv l := by
  obtain ⟨F, h1, h2, h3, h4, h5⟩ := h
  exact (S.rnum w p F rest h1).mono fun _ w' ⟨a, F', b, c, d⟩ => ⟨a, rs_turn h2 h3 h4 h5 b c d⟩

theorem rtext_rs (S : Says RW RR) (w0 w : World) (p : Nat) (rest l : List UInt8) (q : Int) (rv : Value) (h : Rs RR w0 w p rest rv l) (hm : -9223372036854775808 ≤ q ∧ q ≤ 9223372036854775807) : Calls Tryd.prog 12 #[ptr p, nu q] w fun e w' => e = .returned (.tuple #[.string (tx (taken rest q.toNat).1), errE (taken rest q.toNat).2.2]) ∧ Rs RR w0 w' p (rest.drop (taken rest q.toNat).2.1) rv l := by
  obtain ⟨F, h1, h2, h3, h4, h5⟩ := h
  exact (S.rtext w p F rest q h1 hm).mono fun _ w' ⟨a, F', b, c, d⟩ => ⟨a, rs_turn h2 h3 h4 h5 b c d⟩

theorem left_rs (S : Says RW RR) (w0 w : World) (p : Nat) (rest l : List UInt8) (rv : Value) (h : Rs RR w0 w p rest rv l) : Calls Tryd.prog 9 #[ptr p] w fun e w' => e = .returned (nu (rest.length : Int)) ∧ Rs RR w0 w' p rest rv l := by
  have h0 := h
  obtain ⟨F, h1, _⟩ := h
  exact (S.left w p F rest h1).mono fun _ w' ⟨a, b⟩ => ⟨a, rs_keep S h0 b⟩

theorem end_rs (S : Says RW RR) (w0 w : World) (p : Nat) (rest l : List UInt8) (rv : Value) (h : Rs RR w0 w p rest rv l) : Calls Tryd.prog 11 #[ptr p] w fun e w' => e = .returned (errE (if rest.length = 0 then 0 else 3)) ∧ Rs RR w0 w' p rest rv l := by
  have h0 := h
  obtain ⟨F, h1, _⟩ := h
  exact (S.end_ w p F rest h1).mono fun _ w' ⟨a, b⟩ => ⟨a, rs_keep S h0 b⟩

theorem further_block (a : Option Addr) (cap n len c : Nat) (g : Nat) (h : (Value.slice (further a cap n) len c).ownBlock = some g) (len' c' : Nat) : (Value.slice a len' c').ownBlock = some g := by
  cases a with
  | none => simp [further, Value.ownBlock] at h
  | some ad =>
    unfold further at h
    by_cases h1 : cap = n
    · simp [h1, Value.ownBlock] at h
      simpa [Value.ownBlock] using h
    · by_cases h2 : n = 0
      · simp [h2, Value.ownBlock] at h
        simpa [Value.ownBlock] using h
      · simp [h1, h2, Value.ownBlock] at h
        simpa [Value.ownBlock] using h

/-- Some bytes less ahead, of both. -/
theorem rs_cut {w0 w : World} {p : Nat} {rest l : List UInt8} {a : Option Addr} {cap : Nat} (h : Rs RR w0 w p rest (.slice a l.length cap) l) (n : Nat) (hn : n ≤ l.length) : Rs RR w0 w p rest (.slice (further a cap n) (l.length - n) (cap - n)) (l.drop n) := by
  obtain ⟨F, h1, h2, h3, h4, h5⟩ := h
  exact ⟨F, h1, h2, h3, h4.drop n hn, fun g hg => h5 g (further_block a cap n _ _ g hg _ _)⟩

theorem num_le (l : List UInt8) : (num l).2.1 ≤ l.length ∧ (num l).2.2 ≤ 24 ∧ (num l).1 < 18446744073709551616 := by
  have h := numG_no 10 0 0 l
  obtain ⟨v, n, no, hn⟩ : ∃ v n no, num l = (v, n, no) := ⟨_, _, _, rfl⟩
  rw [show numG 10 0 0 l = (v, n, no) from hn] at h
  rw [hn]
  rcases h with h | ⟨h1, h2, h3⟩
  · simp at h
    subst h
    obtain ⟨a, b, c, _⟩ := num_back l v n hn
    exact ⟨c, Nat.zero_le _, a⟩
  · simp at h1 h2 h3
    exact ⟨by simp [h2], by simp; omega, by simp [h1]⟩

theorem taken_le (l : List UInt8) (m : Nat) : (taken l m).2.1 ≤ l.length ∧ (taken l m).2.2 ≤ 24 := by
  have h := num_le l
  unfold taken
  split
  · exact ⟨Nat.zero_le _, h.2.1⟩
  · split
    · exact ⟨Nat.zero_le _, by decide⟩
    · split
      · exact ⟨Nat.zero_le _, by decide⟩
      · exact ⟨by show (num l).2.1 + (num l).1 ≤ l.length; omega, Nat.zero_le _⟩

theorem handle_more {w w' : World} (h : Er.Handle w) (hb : Below w.heap.size w w') : Er.Handle w' := h.below hb

/-- The reader, and the row that was lent, while its bytes are turned. -/
def Xs (RR : World → Nat → (Nat → Prop) → List UInt8 → Prop) (w0 w : World) (p : Nat) (F : Nat → Prop) (b : List UInt8) (g cx : Nat) : Prop :=
  RR w p F b ∧ Below w0.heap.size w0 w ∧ ∃ ys : List UInt8, ys.length = b.length + 16 ∧ w.ownsRow w0.heap.size 5 1 (.slice (some ⟨g, 0, none⟩) (b.length + 16) cx) (b.length + 16) (ys.map by1)

theorem Xs.step (S : Says RW RR) {w0 w : World} {p : Nat} {F : Nat → Prop} {b : List UInt8} {g cx : Nat} (h : Xs RR w0 w p F b g cx) (hn : ¬ F g) (hg : w0.heap.size ≤ g) (k : Nat) (hk : k < b.length) : ∃ y z : Int, w.cell? ⟨g, k, none⟩ = some (.int .u8 y) ∧ w.frozen? ⟨g, k, none⟩ = false ∧ IntKind.u8.wrap (y + 1) = z ∧ Xs RR w0 (w.setCell ⟨g, k, none⟩ (.int .u8 z)) p F b g cx := by
  obtain ⟨h1, h2, ys, hl, ho⟩ := h
  have hky : k < ys.length := by omega
  have hK : Keep (fun k => k = g) w (w.setCell ⟨g, k, none⟩ (.int .u8 (IntKind.u8.wrap ((ys[k].toNat : Int) + 1)))) := (Keep.refl (fun k => k = g) w).setCell (p := ⟨g, k, none⟩) (.inl rfl) _
  refine ⟨(ys[k].toNat : Int), _, ?_, own_free ho _, rfl, S.keepR h1 hK (fun j hf e => hn (by rw [← e]; exact hf)), Keep.belowF h2 hK (fun j e => by omega), ys.set k (UInt8.ofNat ((ys[k].toNat + 1) % 256)), by simpa using hl, ?_⟩
  · exact (ho.cellAt k (by omega)).trans (by simp [hky])
  · have h5 := own_set ho k (.int .u8 (IntKind.u8.wrap ((ys[k].toNat : Int) + 1)))
    have e : (ys.map by1).set k (.int .u8 (IntKind.u8.wrap ((ys[k].toNat : Int) + 1))) = (ys.set k (UInt8.ofNat ((ys[k].toNat + 1) % 256))).map by1 := by
      rw [List.map_set]
      congr 1
      show Value.int .u8 _ = Value.int .u8 _
      congr 1
      rw [ofNat_toNat _ (by omega), IntKind.wrap_u8]
      omega
    rw [e] at h5
    exact h5

set_option maxRecDepth 100000 in
set_option maxHeartbeats 8000000 in
theorem reads_yes (S : Says RW RR) (v qv : Value) (b : List UInt8) (asks : List Ask) (w : World) (hR : RdB w v b) (hQ : RdQ w qv asks) (hl : b.length ≤ 140737488351232) (hq : ∀ r ∈ asks, -9223372036854775808 ≤ r.2 ∧ r.2 ≤ 9223372036854775807) (hE : Er.Handle w) :
    Calls Tryd.prog 3 #[v, qv] w fun e w' => e = .returned (.bool true) ∧ Below w.heap.size w w' := by
  have c1 := Hid.mk' (lentB_any v b w hR hl)
  have c2 : Hid (∀ wx x, RdB wx x b → Calls Tryd.prog 6 #[x] wx fun e w' => ∃ p F, e = .returned (ptr p) ∧ RR w' p F b ∧ (∀ k, F k → wx.heap.size ≤ k) ∧ Below wx.heap.size wx w') := fun wx x h => S.open_ wx x b h hl
  have c3 : Hid (∀ wx, RdB wx v b → Calls Tryd.prog 8 #[v] wx fun e w' => ∃ v', e = .returned v' ∧ w'.ownsRow wx.heap.size 5 1 v' b.length (b.map by1) ∧ Below wx.heap.size wx w') := fun wx h => copyB_any v b wx h hl
  have HR := Hid.mk' hR
  obtain ⟨a, cap, rfl, hc, hm, _⟩ := hR
  obtain ⟨aq, capq, rfl, hcq, hmq, hcell⟩ := hQ
  have HC := Hid.mk' hcell
  have HF := Hid.mk' hq
  have HE := Hid.mk' hE
  unfold maxLen at hm hmq
  clear hcell hq hE
  go_enter Tryd.func3, Tryd.ntmps3
  go_wp2_with fail
  refine c1.out.mono ?_
  rintro e w1 ⟨g, cx, rfl, hcx, hcm, ho1, hb1⟩
  have hgl : g < w1.heap.size := (ho1.lt g rfl).2
  have hgw : w.heap.size ≤ g := (ho1.lt g rfl).1
  have hr1 := rdB_lent ho1 hcx hcm hgl
  have C2 := Hid.mk' (c2.out _ _ hr1)
  have HO1 := Hid.mk' ho1
  have HB1 := Hid.mk' hb1
  have HCM := Hid.mk' hcm
  unfold maxLen at hcm
  clear hr1 ho1 hb1 c1
  go_wp2_with fail
  refine C2.out.mono ?_
  rintro e w2 ⟨p, F, rfl, hF1, hF2, hb2⟩
  have hB2 : Below w.heap.size w w2 := HB1.out.trans (hb2.mono HB1.out.size)
  have C3 := Hid.mk' (keptB_any _ b g cx w.heap.size w2 (HR.out.below hB2) hl hcx HCM.out (own_keptB HO1.out hb2) (Nat.lt_of_lt_of_le hgl hb2.size))
  have hO2 := Hid.mk' (own_keptB HO1.out hb2)
  have HF1 := Hid.mk' hF1
  have HF2 := Hid.mk' hF2
  have HB2 := Hid.mk' hB2
  have hg2 : g < w2.heap.size := Nat.lt_of_lt_of_le hgl hb2.size
  clear hF1 hF2 hb2 C2 hB2
  go_wp2_with fail
  refine C3.out.mono ?_
  rintro e w3 ⟨rfl, hb3⟩
  have hnF : ¬ F g := fun h => by have := HF2.out g h; omega
  have hR3 : Hid (Xs RR w w3 p F b g cx) := ⟨S.keepR HF1.out (Keep.of_below (F := fun _ => False) hb3) (fun _ _ h => h), HB2.out.trans (hb3.mono HB2.out.size), _, by rw [List.length_append, mksB_len], own_keptB hO2.out hb3⟩
  have hFw : Hid (∀ k, F k → w.heap.size ≤ k) := fun k hk => Nat.le_trans HB1.out.size (HF2.out k hk)
  have hcx2 : b.length ≤ cx := by omega
  clear hb3 C3 c2 hO2 HF1 HF2 HB2 hg2 HB1 HO1 HCM hgl
  go_wp2
  go_loopw [7] (fun iv wr => ∃ k : Nat, k ≤ b.length ∧ iv = nu k ∧ Hid (Xs RR w wr p F b g cx)) (fun iv _ => b.length - (intOf iv).toNat)
  case atStart => exact ⟨0, Nat.zero_le _, rfl, hR3⟩
  case round =>
    obtain ⟨k, hk, rfl, hX⟩ := hrel
    by_cases hp : (k : Int) < (b.length : Int)
    · obtain ⟨y, z, q0, qf, hyz, hst⟩ := hX.out.step S hnF hgw k (by omega)
      have HST := Hid.mk' hst
      have hk0 : (0 : Int) ≤ (k : Int) := by omega
      clear hst
      go_wp2
      go_roundw
      case rel => exact ⟨k + 1, by omega, by go_num, HST⟩
      case measure => simp [intOf]; omega
    · obtain rfl : k = b.length := by omega
      have C3 := Hid.mk' (c3.out _ (HR.out.below hX.out.2.1))
      clear hR3
      go_wp2_with fail
      refine C3.out.mono ?_
      rintro e w5 ⟨rv, rfl, ho5, hb5⟩
      have H5 : Hid (Rs RR w w5 p b rv b) := by
        obtain ⟨hx1, hx2, _⟩ := hX.out
        refine ⟨F, S.keepR hx1 (Keep.of_below (F := fun _ => False) hb5) (fun _ _ h => h), hFw.out, hx2.trans (hb5.mono hx2.size), own_rd ho5, fun g' hg' => ⟨fun hf => ?_, (ho5.lt g' hg').2⟩⟩
        have h6 := S.ltR hx1 g' hf
        have h7 := (ho5.lt g' hg').1
        omega
      obtain ⟨ar, capr, rfl, hcr1, hcr2, _⟩ := Nm.own_shape ho5
      clear ho5 hb5 C3 hX c3 hFw hnF
      unfold maxLen at hcr2
      have cL : Hid (∀ wx r rv l, Rs RR w wx p r rv l → Calls Tryd.prog 9 #[ptr p] wx fun e w' => e = .returned (nu (r.length : Int)) ∧ Rs RR w w' p r rv l) := fun wx r rv l h => left_rs S w wx p r l rv h
      have cE : Hid (∀ wx r rv l, Rs RR w wx p r rv l → Calls Tryd.prog 11 #[ptr p] wx fun e w' => e = .returned (errE (if r.length = 0 then 0 else 3)) ∧ Rs RR w w' p r rv l) := fun wx r rv l h => end_rs S w wx p r l rv h
      have cP : Hid (∀ wx r rv l (n : Nat), Rs RR w wx p r rv l → n ≤ 24 → Calls Tryd.prog 10 #[errE n, nu (n : Int)] wx fun e w' => e = .returned (.bool true) ∧ Rs RR w w' p r rv l) := fun wx r rv l n h hn => (plainE n hn wx (handle_more HE.out (rs_below h))).mono fun _ w' ⟨a, b⟩ => ⟨a, rs_keep S h b⟩
      have cT : Hid (∀ wx r rv l q, Rs RR w wx p r rv l → (-9223372036854775808 ≤ q ∧ q ≤ 9223372036854775807) → Calls Tryd.prog 12 #[ptr p, nu q] wx fun e w' => e = .returned (.tuple #[.string (tx (taken r q.toNat).1), errE (taken r q.toNat).2.2]) ∧ Rs RR w w' p (r.drop (taken r q.toNat).2.1) rv l) := fun wx r rv l q h hq => rtext_rs S w wx p r l q rv h hq
      have cN : Hid (∀ wx r rv l, Rs RR w wx p r rv l → Calls Tryd.prog 14 #[ptr p] wx fun e w' => e = .returned (.tuple #[.int .u64 ((num r).1 : Int), errE (num r).2.2]) ∧ Rs RR w w' p (r.drop (num r).2.1) rv l) := fun wx r rv l h => rnum_rs S w wx p r l rv h
      have cT2 : Hid (∀ wx r rv l q, Rs RR w wx p r rv l → (-9223372036854775808 ≤ q ∧ q ≤ 9223372036854775807) → Calls Tryd.prog 13 #[rv, nu q] wx fun e w' => e = .returned (.tuple #[.string (tx (taken l q.toNat).1), nu ((taken l q.toNat).2.1 : Int), nu ((taken l q.toNat).2.2 : Int)]) ∧ w' = wx) := fun wx r rv l q h hq => taken_ref rv l q wx (rs_rd h) hq
      have cN2 : Hid (∀ wx r rv l, Rs RR w wx p r rv l → Calls Tryd.prog 15 #[rv] wx fun e w' => e = .returned (.tuple #[.int .u64 ((num l).1 : Int), nu ((num l).2.1 : Int), nu ((num l).2.2 : Int)]) ∧ w' = wx) := fun wx r rv l h => number_ref rv l wx (rs_rd h)
      go_wp2
      go_loopw [8, 9] (fun rv iv wr => ∃ (k : Nat) (rest : List UInt8) (ar : Option Addr) (capr : Nat), k ≤ asks.length ∧ iv = nu k ∧ rv = .slice ar rest.length capr ∧ rest.length ≤ capr ∧ capr ≤ 9223372036854775807 ∧ Hid (Rs RR w wr p rest (.slice ar rest.length capr) rest)) (fun _ iv _ => asks.length - (intOf iv).toNat)
      case atStart => exact ⟨0, b, ar, capr, Nat.zero_le _, rfl, rfl, hcr1, by omega, H5⟩
      case round =>
        clear H5 hcr1 hcr2
        obtain ⟨k, rest, a2, cap2, hk, rfl, rfl, hcr1, hcr2, hX⟩ := hrel
        by_cases hp : (k : Int) < (asks.length : Int)
        · obtain ⟨gq, o, rfl, hgl, hcj⟩ := HC.out (by omega)
          obtain ⟨r, hr⟩ : ∃ r, asks[k]? = some r := ⟨_, List.getElem?_eq_getElem (by omega)⟩
          obtain ⟨q0, q1⟩ := hcj k r hr
          have hrv := HF.out r (List.mem_of_getElem? hr)
          have hk0 : (0 : Int) ≤ (k : Int) := by omega
          have hlat : Hid (∀ w2 r' rv l, Rs RR w w2 p r' rv l → w2.cell? ⟨gq, o + k * 2, none⟩ = some (.bool r.1) ∧ w2.cell? ⟨gq, o + k * 2 + 1, none⟩ = some (nu r.2)) := fun w2 r' rv l h => by
            have hb := rs_below h
            exact ⟨(hb.cell (p := ⟨gq, o + k * 2, none⟩) hgl).trans q0, (hb.cell (p := ⟨gq, o + k * 2 + 1, none⟩) hgl).trans q1⟩
          clear hcj hr q0 q1
          obtain ⟨rt, rm⟩ := r
          have hne : ((rest.length : Int) != (rest.length : Int)) = false := by simp
          have hN : Hid (∃ N : Nat, N ≤ 24 ∧ (if rest.length = 0 then 0 else 3) = N ∧ ((¬ (0 : Int) < (rest.length : Int) ∧ N = 0) ∨ ((0 : Int) < (rest.length : Int) ∧ N = 3))) := by
            by_cases h0 : rest.length = 0
            · exact ⟨0, by decide, if_pos h0, .inl ⟨by omega, rfl⟩⟩
            · exact ⟨3, by decide, if_neg h0, .inr ⟨by omega, rfl⟩⟩
          obtain ⟨N, hN24, hNe, hNc⟩ := hN.out
          have CL := Hid.mk' (cL.out _ _ _ _ hX.out)
          have cE' : Hid (∀ wx, Rs RR w wx p rest (.slice a2 rest.length cap2) rest → Calls Tryd.prog 11 #[ptr p] wx fun e w' => e = .returned (errE N) ∧ Rs RR w w' p rest (.slice a2 rest.length cap2) rest) := fun wx h => by
            have := cE.out wx _ _ _ h
            rw [hNe] at this
            exact this
          clear hN hNe
          rcases hNc with ⟨hgt, rfl⟩ | ⟨hgt, rfl⟩ <;> (
            go_wp2_with fail
            refine CL.out.mono ?_
            rintro e w6 ⟨rfl, h6⟩
            have CE := Hid.mk' (cE'.out _ h6)
            clear h6 CL
            go_wp2_with fail
            refine CE.out.mono ?_
            rintro e w7 ⟨rfl, h7⟩
            have CP := Hid.mk' (cP.out _ _ _ _ _ h7 hN24)
            clear h7 CE
            go_wp2_with fail
            refine CP.out.mono ?_
            rintro e w8 ⟨rfl, h8⟩
            obtain ⟨p0, p1⟩ := hlat.out _ _ _ _ h8
            try simp only at p0 p1 hrv
            clear CP hgt hne
            cases rt with
            | true =>
              obtain ⟨s, n, no, ht⟩ : ∃ s n no, taken rest rm.toNat = (s, n, no) := ⟨_, _, _, rfl⟩
              have hle := taken_le rest rm.toNat
              have CT := cT.out _ _ _ _ rm h8 hrv
              have CT2 : Hid (∀ wx, Rs RR w wx p (rest.drop n) (.slice a2 rest.length cap2) rest → Calls Tryd.prog 13 #[.slice a2 rest.length cap2, nu rm] wx fun e w' => e = .returned (.tuple #[.string (tx s), nu (n : Int), nu (no : Int)]) ∧ w' = wx) := fun wx h => by
                have := cT2.out wx _ _ _ rm h hrv
                rw [ht] at this
                exact this
              rw [ht] at CT hle
              obtain ⟨hn, hno⟩ := hle
              simp only at hn hno
              have HCT := Hid.mk' CT
              have hsl := fun wx => slice_from a2 rest.length cap2 n hn hcr1 wx
              have cP' : Hid (∀ wx, Rs RR w wx p (rest.drop n) (.slice a2 rest.length cap2) rest → Calls Tryd.prog 10 #[errE no, nu (no : Int)] wx fun e w' => e = .returned (.bool true) ∧ Rs RR w w' p (rest.drop n) (.slice a2 rest.length cap2) rest) := fun wx h => cP.out wx _ _ _ no h hno
              clear CT h8 ht
              simp only at HCT
              generalize tx s = f at *
              generalize errE no = ev at *
              go_wp2_with fail
              refine HCT.out.mono ?_
              rintro e w9 ⟨rfl, h9⟩
              obtain ⟨p0', p1'⟩ := hlat.out _ _ _ _ h9
              try simp only at p0' p1'
              have C2 := Hid.mk' (CT2.out _ h9)
              have CP := Hid.mk' (cP'.out _ h9)
              clear h9 HCT p0 p1
              go_wp2_with fail
              refine C2.out.mono ?_
              rintro e w' ⟨rfl, hw⟩
              subst w'
              clear C2
              go_wp2_with fail
              refine CP.out.mono ?_
              rintro e w10 ⟨rfl, h10⟩
              have H10 := Hid.mk' (rs_cut h10 n hn)
              clear h10 CP p0' p1'
              go_wp2
              go_roundw
              case rel => exact ⟨k + 1, rest.drop n, further a2 cap2 n, cap2 - n, by omega, by go_num, by rw [List.length_drop], by rw [List.length_drop]; omega, by omega, by rw [List.length_drop]; exact H10⟩
              case measure => simp [intOf]; omega
            | false =>
              obtain ⟨x, n, no, ht⟩ : ∃ x n no, num rest = (x, n, no) := ⟨_, _, _, rfl⟩
              have hle := num_le rest
              have CT := cN.out _ _ _ _ h8
              have CT2 : Hid (∀ wx, Rs RR w wx p (rest.drop n) (.slice a2 rest.length cap2) rest → Calls Tryd.prog 15 #[.slice a2 rest.length cap2] wx fun e w' => e = .returned (.tuple #[.int .u64 (x : Int), nu (n : Int), nu (no : Int)]) ∧ w' = wx) := fun wx h => by
                have := cN2.out wx _ _ _ h
                rw [ht] at this
                exact this
              rw [ht] at CT hle
              obtain ⟨hn, hno, _⟩ := hle
              simp only at hn hno
              have HCT := Hid.mk' CT
              have hsl := fun wx => slice_from a2 rest.length cap2 n hn hcr1 wx
              have cP' : Hid (∀ wx, Rs RR w wx p (rest.drop n) (.slice a2 rest.length cap2) rest → Calls Tryd.prog 10 #[errE no, nu (no : Int)] wx fun e w' => e = .returned (.bool true) ∧ Rs RR w w' p (rest.drop n) (.slice a2 rest.length cap2) rest) := fun wx h => cP.out wx _ _ _ no h hno
              clear CT h8 ht
              simp only at HCT
              generalize errE no = ev at *
              go_wp2_with fail
              refine HCT.out.mono ?_
              rintro e w9 ⟨rfl, h9⟩
              have C2 := Hid.mk' (CT2.out _ h9)
              have CP := Hid.mk' (cP'.out _ h9)
              clear h9 HCT p0 p1
              go_wp2_with fail
              refine C2.out.mono ?_
              rintro e w' ⟨rfl, hw⟩
              subst w'
              clear C2
              go_wp2_with fail
              refine CP.out.mono ?_
              rintro e w10 ⟨rfl, h10⟩
              have H10 := Hid.mk' (rs_cut h10 n hn)
              clear h10 CP
              go_wp2
              go_roundw
              case rel => exact ⟨k + 1, rest.drop n, further a2 cap2 n, cap2 - n, by omega, by go_num, by rw [List.length_drop], by rw [List.length_drop]; omega, by omega, by rw [List.length_drop]; exact H10⟩
              case measure => simp [intOf]; omega)
        · have CL := Hid.mk' (cL.out _ _ _ _ hX.out)
          go_wp2_with fail
          refine CL.out.mono ?_
          rintro e w6 ⟨rfl, h6⟩
          have hB := Hid.mk' (rs_below h6)
          clear h6 CL
          go_wp2
          go_ret
          exact ⟨by simp, hB.out⟩
end Pk
end Go.Proofs.YtojejenijhjglaaDoor
