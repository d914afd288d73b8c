/- The document's area: a number's four bytes, the header, Save and Load. -/
import Derived.Test.YtlgjnefieflmbaaDoorAreaQ
import Derived.Test.YtlgjnefieflmbaaDoorRefK
import Derived.Test.YtlgjnefieflmbaaDoorAppS
namespace Go.Proofs.YtlgjnefieflmbaaDoor
set_option linter.ambiguousOpen false
open Go.RowKit
namespace Ae
open Sm Ft Dk
set_option linter.unusedSimpArgs false
set_option linter.unusedVariables false

theorem lo4 (v : Nat) : (Rc.lo v 4).map by1 = [.int .u8 ((v % 256 : Nat) : Int), .int .u8 ((v / 256 % 256 : Nat) : Int), .int .u8 ((v / 65536 % 256 : Nat) : Int), .int .u8 ((v / 16777216 % 256 : Nat) : Int)] := by
  have h : ∀ y : Nat, y < 256 → by1 (UInt8.ofNat y) = .int .u8 (y : Int) := fun y hy => by
    show Value.int .u8 _ = _
    rw [UInt8.toNat_ofNat_of_lt' (by omega : y < 2 ^ 8)]
  simp only [Rc.lo, List.map_cons, List.map_nil]
  rw [h _ (by omega), h _ (by omega), h _ (by omega), h _ (by omega), Nat.div_div_eq_div_mul, Nat.div_div_eq_div_mul]

theorem lo4I (v : Nat) (h : v < 4294967296) : (Rc.lo v 4).map by1 = [.int .u8 ((v : Int) % 256), .int .u8 ((v : Int) / 256 % 256), .int .u8 ((v : Int) / 65536 % 256), .int .u8 ((v : Int) / 16777216)] := by
  rw [lo4]
  congr 1
  congr 1
  congr 1
  congr 2
  omega

set_option maxRecDepth 100000 in
set_option maxHeartbeats 1000000 in
theorem four_any (base n : Nat) (lv : Value) (l : List UInt8) (v : Nat) (w : World) (hO : w.ownsRow base 5 1 lv n (l.map by1)) (hn : n ≤ 1000) (hb : base ≤ w.heap.size) (hv : v < 4294967296) :
    Calls Tryd.prog 77 #[lv, .int .u32 (v : Int)] w fun e w' => ∃ x, e = .returned x ∧ w'.ownsRow base 5 1 x (n + 4) ((l ++ Rc.lo v 4).map by1) ∧ Below base w w' := by
  obtain ⟨i0, ji, hz0, hz1, hz2⟩ := info_parts info_byte
  have hS : Hid ((l ++ Rc.lo v 4).map by1 = l.map by1 ++ [.int .u8 ((v : Int) % 256), .int .u8 ((v : Int) / 256 % 256), .int .u8 ((v : Int) / 65536 % 256), .int .u8 ((v : Int) / 16777216)]) := by
    show _ = _
    rw [List.map_append, lo4I v hv]
  have HO := Hid.mk' hO
  have hone : Hid (∀ x ∈ [Value.int .u8 ((v : Int) % 256), .int .u8 ((v : Int) / 256 % 256), .int .u8 ((v : Int) / 65536 % 256), .int .u8 ((v : Int) / 16777216)], x.oneCell' = true) := by
    intro x hx
    simp at hx
    rcases hx with rfl | rfl | rfl | rfl <;> rfl
  have hmx : Hid (n + 4 ≤ maxLen) := by show _ ≤ _; unfold maxLen; omega
  have hby : Hid ((n + 4) * 1 ≤ 140737488355328) := by show _ ≤ _; omega
  have hlt : Hid (∀ k, lv.ownBlock = some k → base ≤ k) := fun k hk => (hO.lt k hk).1
  clear hO
  go_enter Tryd.func77, Tryd.ntmps77
  go_wp2_with (at_builtin; refine wpList_append_own _ rfl _ _ 33 rfl base 5 i0 (.int .u8 0) 1 1 Tryd.underlying33 ji hz0 hz1 hz2 rfl (by decide) _ _ _ rfl (HO.out.alloc _) ⟨w.heap.size, 0, none⟩ 4 4 [.int .u8 ((v : Int) % 256), .int .u8 ((v : Int) / 256 % 256), .int .u8 ((v : Int) / 65536 % 256), .int .u8 ((v : Int) / 16777216)] rfl rfl (World.news_of_block (heap_alloc_new _ _)) hone.out hmx.out hby.out (by simp; omega) ?_; intro v' w4 hown4 hgrow _; rw [← hS.out] at hown4; have HO4 := Hid.mk' hown4; have HB4 : Hid (Below base w w4) := Below.grown ((Below.refl base w).alloc hb _) hgrow (by simp; omega) hlt.out; clear hown4 hgrow)
  go_ret
  exact ⟨_, rfl, HO4.out, HB4.out⟩

theorem may_ref (w : World) (g : Nat) (d : Dsk) (a n : Int) (h0 : w.cell? ⟨g, 0, none⟩ = some (nu d.n)) (hd : 1 ≤ d.n ∧ d.n ≤ 4096) :
    Calls Tryd.prog 57 #[ptr g, nu a, nu n] w fun e w' => e = .returned (.bool (may d a n)) ∧ w' = w := by
  obtain ⟨r, hr⟩ : ∃ r, may d a n = r := ⟨_, rfl⟩
  rw [hr]
  unfold may at hr
  by_cases h1 : 0 ≤ a
  · by_cases h2 : 1 ≤ n
    · by_cases h3 : a ≤ d.n
      · by_cases h4 : n ≤ d.n
        · have hm : r = decide (a + 1 + 2 * n ≤ d.n) := by
            rw [← hr]
            exact decide_eq_decide.2 (by omega)
          clear hr
          subst hm
          go_enter Tryd.func57, Tryd.ntmps57
          go_wp2
          go_ret
          exact ⟨rfl, rfl⟩
        · have hm : r = false := by rw [← hr]; exact decide_eq_false (by omega)
          clear hr
          subst hm
          go_enter Tryd.func57, Tryd.ntmps57
          go_wp2
          go_ret
          exact ⟨rfl, rfl⟩
      · have hm : r = false := by rw [← hr]; exact decide_eq_false (by omega)
        clear hr
        subst hm
        go_enter Tryd.func57, Tryd.ntmps57
        go_wp2
        go_ret
        exact ⟨rfl, rfl⟩
    · have hm : r = false := by rw [← hr]; exact decide_eq_false (by omega)
      clear hr
      subst hm
      go_enter Tryd.func57, Tryd.ntmps57
      go_wp2
      go_ret
      exact ⟨rfl, rfl⟩
  · have hm : r = false := by rw [← hr]; exact decide_eq_false (by omega)
    clear hr
    subst hm
    go_enter Tryd.func57, Tryd.ntmps57
    go_wp2
    go_ret
    exact ⟨rfl, rfl⟩

theorem first_ref (a n : Int) (ep : Nat) (w : World) (ha : 0 ≤ a ∧ a ≤ 4096) (hn : 1 ≤ n ∧ n ≤ 4096) (hep : ep < 4294967296) :
    Calls Tryd.prog 58 #[nu a, nu n, .int .u32 (ep : Int)] w fun e w' => e = .returned (nu (fst a n ep)) ∧ w' = w := by
  unfold fst
  obtain ⟨r, hr⟩ : ∃ r : Int, (ep : Int) % 2 = r := ⟨_, rfl⟩
  have hre : ((ep % 2 : Nat) : Int) = r := by omega
  rw [hre]
  have hr01 : r = 0 ∨ r = 1 := by omega
  have htm : (ep : Int).tmod 2 = r := by rw [Int.tmod_eq_emod_of_nonneg (by omega), hr]
  clear hr hre
  rcases hr01 with rfl | rfl
  · go_enter Tryd.func58, Tryd.ntmps58
    go_wp2
    go_ret
    exact ⟨ret_nu (by omega), rfl⟩
  · go_enter Tryd.func58, Tryd.ntmps58
    go_wp2
    go_ret
    exact ⟨ret_nu (by omega), rfl⟩

theorem or_mul32 (a b k m : Nat) (hm : m = 2 ^ k) (ha : a < m) (hb : a + b * m < 4294967296) : bits .or .u32 (a : Int) ((b : Int) * (m : Int)) = ((a + b * m : Nat) : Int) := by
  have e : (b : Int) * (m : Int) = ((b * m : Nat) : Int) := by push_cast; rfl
  rw [e, u32_or_nat a (b * m) (by omega) (by omega)]
  congr 1
  subst hm
  have := Nat.two_pow_add_eq_or_of_lt ha b
  rw [Nat.or_comm, Nat.mul_comm b, ← this]
  omega

theorem num4_by (s : List UInt8) (k : Nat) (h : k + 4 ≤ s.length) : num4 s k = (byI s k).toNat + 256 * ((byI s (k + 1)).toNat + 256 * ((byI s (k + 2)).toNat + 256 * (byI s (k + 3)).toNat)) := by
  have e : (s.drop k).take 4 = [byI s k, byI s (k + 1), byI s (k + 2), byI s (k + 3)] := by
    apply List.ext_getElem?
    intro i
    rw [List.getElem?_take]
    match i with
    | 0 => simp [byI, List.getElem?_drop, List.getElem?_eq_getElem (show k < s.length by omega)]
    | 1 => simp [byI, List.getElem?_drop, List.getElem?_eq_getElem (show k + 1 < s.length by omega)]
    | 2 => simp [byI, List.getElem?_drop, List.getElem?_eq_getElem (show k + 2 < s.length by omega)]
    | 3 => simp [byI, List.getElem?_drop, List.getElem?_eq_getElem (show k + 3 < s.length by omega)]
    | i + 4 => simp; omega
  rw [num4, e]
  simp [num]

set_option maxRecDepth 100000 in
set_option maxHeartbeats 1000000 in
theorem number_ref (s : List UInt8) (k : Nat) (w : World) (hk : k + 4 ≤ s.length) (hs : s.length ≤ 256) :
    Calls Tryd.prog 65 #[.string (tx s), nu (k : Int)] w fun e w' => e = .returned (.int .u32 (num4 s k : Int)) ∧ Below w.heap.size w w' := by
  have i0 := fun wx => idx_at s k (by omega) wx
  have i1 := fun wx => idx_at s (k + 1) (by omega) wx
  have i2 := fun wx => idx_at s (k + 2) (by omega) wx
  have i3 := fun wx => idx_at s (k + 3) (by omega) wx
  have hz : (tx s).size = s.length := rfl
  unfold by1 at i0 i1 i2 i3
  simp only [Int.natCast_add, Int.cast_ofNat_Int] at i1 i2 i3
  generalize tx s = f at *
  obtain ⟨b0, hb0⟩ : ∃ b, (byI s k).toNat = b := ⟨_, rfl⟩
  obtain ⟨b1, hb1⟩ : ∃ b, (byI s (k + 1)).toNat = b := ⟨_, rfl⟩
  obtain ⟨b2, hb2⟩ : ∃ b, (byI s (k + 2)).toNat = b := ⟨_, rfl⟩
  obtain ⟨b3, hb3⟩ : ∃ b, (byI s (k + 3)).toNat = b := ⟨_, rfl⟩
  rw [hb0] at i0
  rw [hb1] at i1
  rw [hb2] at i2
  rw [hb3] at i3
  have l0 : b0 < 256 := by rw [← hb0]; exact byte_lt _
  have l1 : b1 < 256 := by rw [← hb1]; exact byte_lt _
  have l2 : b2 < 256 := by rw [← hb2]; exact byte_lt _
  have l3 : b3 < 256 := by rw [← hb3]; exact byte_lt _
  have hfin : Hid (bits .or .u32 (bits .or .u32 (bits .or .u32 (b0 : Int) ((b1 : Int) * 256)) ((b2 : Int) * 65536)) ((b3 : Int) * 16777216) = (num4 s k : Int)) := by
    show _ = _
    have e1 := or_mul32 b0 b1 8 256 (by decide) l0 (by omega)
    have e2 := or_mul32 (b0 + b1 * 256) b2 16 65536 (by decide) (by omega) (by omega)
    have e3 := or_mul32 (b0 + b1 * 256 + b2 * 65536) b3 24 16777216 (by decide) (by omega) (by omega)
    have e4 := num4_by s k hk
    rw [hb0, hb1, hb2, hb3] at e4
    rw [show (256 : Int) = ((256 : Nat) : Int) from rfl, show (65536 : Int) = ((65536 : Nat) : Int) from rfl, show (16777216 : Int) = ((16777216 : Nat) : Int) from rfl, e1, e2, e3, e4]
    congr 1
    omega
  clear hb0 hb1 hb2 hb3
  go_enter Tryd.func65, Tryd.ntmps65
  go_wp2_with fail
  go_quiet (fail)
  go_wp2
  go_ret
  exact ⟨ret_u4 hfin.out, ⟨rfl, rfl, rfl, Nat.le_refl _, fun _ _ => rfl⟩⟩
end Ae
end Go.Proofs.YtlgjnefieflmbaaDoor
