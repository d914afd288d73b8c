import Derived.Test.YthdibodmnpcekaaGreatDoorBlkM
import Derived.Test.YthdibodmnpcekaaGreatDoorRecM
import Derived.Test.YthdibodmnpcekaaGreatDoorCounts
import Derived.Test.YthdibodmnpcekaaGreatDoorShelf
import Derived.BigQuiet
import Derived.Lib.SlBytesConst
import Derived.ArgAppend
/- The program's record: numbers, heads, sums, what a first block says. -/
namespace Go.Proofs.YthdibodmnpcekaaGreatDoor
set_option linter.ambiguousOpen false
open Go.RowKit
namespace Rc
namespace Pr
open Sm Pk
set_option linter.unusedSimpArgs false
set_option linter.unusedVariables false

theorem by1_of (n : Nat) (h : n < 256) : by1 (UInt8.ofNat n) = .int .u8 (n : Int) := by
  show Value.int .u8 _ = _
  rw [UInt8.toNat_ofNat_of_lt' (by omega : n < 2 ^ 8)]

theorem lo4 (v : Nat) (hv : v < 4294967296) : (lo v 4).map by1 = [.int .u8 ((v : Int) % 256), .int .u8 ((v : Int) / 256 % 256), .int .u8 ((v : Int) / 65536 % 256), .int .u8 ((v : Int) / 16777216)] := by
  have e1 := by1_of (v % 256) (by omega)
  have e2 := by1_of (v / 256 % 256) (by omega)
  have e3 := by1_of (v / 256 / 256 % 256) (by omega)
  have e4 := by1_of (v / 256 / 256 / 256 % 256) (by omega)
  have h2 : ((v / 256 % 256 : Nat) : Int) = (v : Int) / 256 % 256 := by omega
  have h3 : ((v / 256 / 256 % 256 : Nat) : Int) = (v : Int) / 65536 % 256 := by omega
  have h4 : ((v / 256 / 256 / 256 % 256 : Nat) : Int) = (v : Int) / 16777216 := by omega
  have h1 : ((v % 256 : Nat) : Int) = (v : Int) % 256 := by omega
  rw [lo, lo, lo, lo, lo, List.map_cons, List.map_cons, List.map_cons, List.map_cons, List.map_nil, e1, e2, e3, e4, h1, h2, h3, h4]

theorem lo2 (n : Nat) : (lo n 2).map by1 = [.int .u8 ((n : Int) % 256), .int .u8 ((n : Int) / 256 % 256)] := by
  have e1 := by1_of (n % 256) (by omega)
  have e2 := by1_of (n / 256 % 256) (by omega)
  have h2 : ((n / 256 % 256 : Nat) : Int) = (n : Int) / 256 % 256 := by omega
  have h1 : ((n % 256 : Nat) : Int) = (n : Int) % 256 := by omega
  rw [lo, lo, lo, List.map_cons, List.map_cons, List.map_nil, e1, e2, h1, h2]

theorem ownsRow_new (w : World) (c : Array Value) (n : Nat) (h : c.size = n) (hn : n ≤ maxLen) : (w.alloc (.cells c 5)).ownsRow w.heap.size 5 1 (.slice (some ⟨w.heap.size, 0, none⟩) n n) n c.toList :=
  World.ownsRow_lit (size := 1) w c n (Nat.le_refl _) hn (by rw [h, Nat.mul_one])

set_option maxRecDepth 100000 in
theorem number_p (v : Nat) (w : World) (hv : v < 4294967296) :
    Calls Tryz.prog 77 #[.int .u32 (v : Int)] w fun e w' => ∃ x, e = .returned x ∧ w'.ownsRow w.heap.size 5 1 x 4 ((lo v 4).map by1) ∧ Below w.heap.size w w' := by
  rw [lo4 v hv]
  go_enter Tryz.func77, Tryz.ntmps77
  go_wp2
  go_ret
  exact ⟨_, rfl, ownsRow_new w _ 4 rfl (by decide), (Below.refl _ _).alloc (Nat.le_refl _) _⟩

set_option maxRecDepth 100000 in
set_option maxHeartbeats 1000000 in
theorem summed_p (ep n : Nat) (w : World) (hep : ep < 4294967296) (hn : n ≤ 140737488355328) :
    Calls Tryz.prog 73 #[.int .u32 (ep : Int), nu (n : Int)] w fun e w' => ∃ x, e = .returned x ∧ w'.ownsRow w.heap.size 5 1 x 7 ((headB ep n).map by1) ∧ Below w.heap.size w w' := by
  have c1 := Hid.mk' (fun wx => number_p ep wx hep)
  have G0 : Hid (Below w.heap.size w (w.alloc (.cells #[.int .u8 104] 5 (1, 2)))) := (Below.refl _ _).alloc (Nat.le_refl _) _
  have G1 : Hid ((w.alloc (.cells #[.int .u8 104] 5 (1, 2))).cell? ⟨w.heap.size, 0, none⟩ = some (.int .u8 104)) := by
    show _ = _
    rw [World.cell?_alloc_mark]
    rfl
  obtain ⟨L1, hL1⟩ : ∃ L, [104] ++ lo ep 4 = L := ⟨_, rfl⟩
  obtain ⟨L2, hL2⟩ : ∃ L, L1 ++ lo n 2 = L := ⟨_, rfl⟩
  have HF : Hid (headB ep n = L2) := by
    show _ = _
    rw [← hL2, ← hL1, headB]
    rfl
  rw [HF.out]
  have HL1 := Hid.mk' hL1
  have HL2 := Hid.mk' hL2
  have m1 : Hid (1 + (lo ep 4).length ≤ 140737488355328) := by show _ ≤ _; rw [lo_len]; decide
  have m2 : Hid (5 + (lo n 2).length ≤ 140737488355328) := by show _ ≤ _; rw [lo_len]; decide
  have p1 : Hid (1 + (lo ep 4).length = 5) := by show _ = _; rw [lo_len]
  have p2 : Hid (5 + (lo n 2).length = 7) := by show _ = _; rw [lo_len]
  have H2 : Hid (∀ wx : World, RdB (wx.alloc (.cells #[.int .u8 ((n : Int) % 256), .int .u8 ((n : Int) / 256 % 256)] 5)) (.slice (some ⟨wx.heap.size, 0, none⟩) 2 2) (lo n 2)) := fun wx => by
    refine own_rd' (base := wx.heap.size) ?_ (lo_len _ _)
    rw [lo2]
    exact ownsRow_new wx _ 2 rfl (by decide)
  have hcs := Lib.run_convert_bytes_const (P := Tryz.prog) w 46 5 #[.int .u8 104] 1 1 Tryz.underlying46 Tryz.underlying5
  obtain ⟨i0, ji, hz0, hz1, hz2⟩ := info_parts info_byte
  clear hL1 hL2
  go_enter Tryz.func73, Tryz.ntmps73
  go_wp2_with fail
  refine (c1.out _).mono ?_
  rintro e x1 ⟨y1, rfl, ho1, hb1⟩
  have HB1 := Hid.mk' (G0.out.trans (hb1.mono G0.out.size))
  have HC1 : Hid (x1.cell? ⟨w.heap.size, 0, none⟩ = some (.int .u8 104)) := (hb1.cell (p := ⟨w.heap.size, 0, none⟩) (by simp)).trans G1.out
  obtain ⟨g1, cp1, rfl, _⟩ := own_posB ho1 (by decide)
  have HN1 : Hid (∀ j u, ((lo ep 4).map by1)[j]? = some u → x1.cell? ((⟨g1, 0, none⟩ : Addr).add j) = some u) := fun j u hj => ho1.cells (g := g1) rfl j u hj
  have HO1 : Hid (∀ b, (some ⟨w.heap.size, 0, none⟩ : Option Addr) = some b → ∀ j u, [Value.int .u8 104][j]? = some u → x1.cell? (b.add j) = some u) := fun b hb j u hj => by
    cases hb
    cases j with
    | zero =>
      simp at hj
      subst hj
      exact HC1.out
    | succ j => simp at hj
  have HL4 : Hid (((lo ep 4).map by1).length = 4 * 1) := by show _ = _; rw [List.length_map, lo_len]
  have HOC : Hid (∀ u ∈ (lo ep 4).map by1, u.oneCell' = true) := fun u hu => by
    obtain ⟨b, _, rfl⟩ := List.mem_map.1 hu
    rfl
  clear ho1 hb1 c1 G0 G1
  go_wp2_with (first | (at_builtin; refine wpList_append_grows _ rfl _ _ 46 rfl 5 i0 (.int .u8 0) 1 1 Tryz.underlying46 ji hz0 hz1 hz2 rfl (by decide) _ 1 1 [.int .u8 104] rfl (by intro h; cases h) rfl HO1.out ⟨g1, 0, none⟩ 4 cp1 ((lo ep 4).map by1) rfl HL4.out HN1.out HOC.out (by decide) (by decide) (by decide) ?_; intro v2 w2 oo og; have HG2 : Hid (Ga w w2 v2 L1 5) := ⟨own_mono (by rw [← HL1.out]; exact oo) HB1.out.size, by rw [← HL1.out, List.length_append, lo_len]; rfl, Below.grown HB1.out og HB1.out.size (fun r e => by cases e)⟩; obtain ⟨ga2, gc2, rfl⟩ := HG2.out.shape; have HG3 := Hid.mk' (HG2.out.below ((Below.refl _ _).alloc (Nat.le_refl _) (.cells #[.int .u8 ((n : Int) % 256), .int .u8 ((n : Int) / 256 % 256)] 5))); have HR2 := Hid.mk' (H2.out w2); clear oo og) | (at_builtin; refine wpList_append_rowP rfl _ _ rfl w.heap.size 5 _ _ _ (lo n 2) rfl rfl HG3.out.own HR2.out (.inr ⟨_, _, _, rfl⟩) m2.out HG3.out.bel.size ?_; intro v4 w4 oo og ov; have HG4 : Hid (Ga w w4 v4 L2 7) := HG3.out.more og HL2.out p2.out oo; obtain ⟨ga4, gc4, rfl⟩ := HG4.out.shape; clear oo og ov) | fail)
  go_ret
  exact ⟨_, rfl, HG4.out.own, HG4.out.bel⟩

theorem own_only {g base n : Nat} {w w' : World} {e : TypeId} {size : Nat} {v : Value} {xs : List Value} (h : w.ownsRow base e size v n xs) (ho : Only g w w') (hne : v.ownBlock ≠ some g) : w'.ownsRow base e size v n xs :=
  h.kept (row := some g) ⟨ho.os, ho.tape, ho.output, ho.size, fun k hk hn => ho.block k hk (fun e => hn (by rw [e]))⟩ (.inr hne)

set_option maxRecDepth 100000 in
set_option maxHeartbeats 1000000 in
theorem heading_p (ep : Nat) (v : Value) (p : List UInt8) (w : World) (hep : ep < 4294967296) (hR : RdB w v p) (hl : p.length ≤ 140737488355328) :
    Calls Tryz.prog 64 #[.int .u32 (ep : Int), v] w fun e w' => e = .returned (.string (tx (topB ep p))) ∧ Below w.heap.size w w' := by
  obtain ⟨n, hn⟩ : ∃ n, p.length = n := ⟨_, rfl⟩
  have c1 := Hid.mk' (fun wx => summed_p ep n wx hep (by omega))
  have cN := Hid.mk' (fun wx => new_any wx)
  obtain ⟨A, hA⟩ : ∃ A, headB ep n = A := ⟨_, rfl⟩
  have hAl : A.length = 7 := by rw [← hA, headB_len]
  obtain ⟨r1, hr1⟩ : ∃ r, reg 4294967295 A = r := ⟨_, rfl⟩
  obtain ⟨r2, hr2⟩ : ∃ r, reg r1 p = r := ⟨_, rfl⟩
  have l1 : r1 < 4294967296 := by rw [← hr1]; exact reg_lt A _ (by decide)
  have l2 : r2 < 4294967296 := by rw [← hr2]; exact reg_lt p _ l1
  obtain ⟨c, hc⟩ : ∃ c, 4294967295 - r2 = c := ⟨_, rfl⟩
  have hcl : c < 4294967296 := by omega
  have HT : Hid (topB ep p = A ++ lo c 4) := by
    show _ = _
    rw [topB, hn, hA, ← hc, ← hr2, ← hr1, ← reg_append]
    rfl
  obtain ⟨L3, hL3⟩ : ∃ L, A ++ lo c 4 = L := ⟨_, rfl⟩
  rw [HT.out, hL3]
  have HL3 := Hid.mk' hL3
  have p4 : Hid (7 + (lo c 4).length = 11) := by show _ = _; rw [lo_len]
  clear hL3
  have c5 := Hid.mk' (fun wx => number_p c wx hcl)
  have HR := Hid.mk' hR
  have m4 : Hid (7 + (lo c 4).length ≤ 140737488355328) := by show _ ≤ _; rw [lo_len]; decide
  obtain ⟨a, cap, rfl, _⟩ := id hR
  rw [hn] at HR ⊢
  rw [hA] at c1
  have HAL := Hid.mk' hAl
  have HR1 := Hid.mk' hr1
  have HR2 := Hid.mk' hr2
  have HC : Hid (4294967295 - r2 = c) := hc
  clear hR hA hr1 hr2 hc hAl hn
  go_enter Tryz.func64, Tryz.ntmps64
  go_wp2_with fail
  refine (c1.out _).mono ?_
  rintro e x1 ⟨y1, rfl, ho1, hb1⟩
  have HG1 : Hid (Ga w x1 y1 A 7) := ⟨ho1, HAL.out, hb1⟩
  obtain ⟨a1, cp1, rfl⟩ := HG1.out.shape
  clear ho1 hb1 c1
  go_wp2_with fail
  refine (cN.out _).mono ?_
  rintro e x2 ⟨rfl, hx2⟩
  have hb2 : Below x1.heap.size x1 x2 := by rw [hx2]; exact (Below.refl _ _).alloc (Nat.le_refl _) _
  have hrg : Rg x2 x1.heap.size 4294967295 := by rw [hx2]; exact heap_alloc_new x1 _
  have HG2 := Hid.mk' (HG1.out.below hb2)
  have hne1 : ∀ b, Value.ownBlock (.slice a1 7 cp1) = some b → b ≠ x1.heap.size := fun b hb e => by
    have := (HG1.out.own.lt b hb).2
    omega
  have hneP : 0 < p.length → Value.ownBlock (.slice a n cap) ≠ some x1.heap.size := fun h0 e => by
    obtain ⟨a', cap', e1, _, _, h4⟩ := HR.out
    obtain ⟨b, o, rfl, e2, _⟩ := h4 h0
    cases e1
    have : b = x1.heap.size := by simpa [Value.ownBlock] using e
    have := HG1.out.bel.size
    omega
  obtain ⟨G, hG⟩ : ∃ G, x1.heap.size = G := ⟨_, rfl⟩
  rw [hG] at hrg hne1 hneP ⊢
  have hGw : Hid (w.heap.size ≤ G) := by show _ ≤ _; rw [← hG]; exact HG1.out.bel.size
  have HNE1 := Hid.mk' hne1
  have HNEP := Hid.mk' hneP
  have c3 := Hid.mk' (add_any G 4294967295 (.slice a1 7 cp1) A x2 (by decide) hrg HG2.out.rd (fun _ e => HNE1.out G e rfl))
  clear hb2 hrg hne1 hneP hG hx2 HG1 cN
  go_wp2_with fail
  refine c3.out.mono ?_
  rintro e x3 ⟨rfl, hrg3, hon3⟩
  rw [HR1.out] at hrg3
  have HG3 : Hid (Ga w x3 (.slice a1 7 cp1) A 7) := ⟨own_only HG2.out.own hon3 (fun e => HNE1.out G e rfl), HAL.out, HG2.out.bel.trans (hon3.below hGw.out HG2.out.bel.size)⟩
  have c4 := Hid.mk' (add_any G r1 (.slice a n cap) p x3 l1 hrg3 (HR.out.below HG3.out.bel) HNEP.out)
  clear hrg3 hon3 c3 HG2
  go_wp2_with fail
  refine c4.out.mono ?_
  rintro e x4 ⟨rfl, hrg4, hon4⟩
  rw [HR2.out] at hrg4
  have HG4 : Hid (Ga w x4 (.slice a1 7 cp1) A 7) := ⟨own_only HG3.out.own hon4 (fun e => HNE1.out G e rfl), HAL.out, HG3.out.bel.trans (hon4.below hGw.out HG3.out.bel.size)⟩
  have cV := value_any G r2 x4 l2 hrg4
  rw [HC.out] at cV
  have CV := Hid.mk' cV
  clear hrg4 hon4 c4 HG3 cV
  go_wp2_with fail
  refine CV.out.mono ?_
  rintro e x5 ⟨rfl, hx5⟩
  subst x5
  go_wp2_with fail
  refine (c5.out _).mono ?_
  rintro e x7 ⟨y7, rfl, ho7, hb7⟩
  have HG7 := Hid.mk' (HG4.out.below hb7)
  have HR7 : Hid (RdB x7 y7 (lo c 4)) := own_rd' ho7 (lo_len _ _)
  have HZ7 : Hid (Nz y7) := nz_own ho7
  obtain ⟨a7, cp7, rfl, _⟩ := Nm.own_shape ho7
  clear ho7 hb7 c5 HG4 CV
  go_wp2_with (at_builtin; refine wpList_append_rowP rfl _ _ rfl w.heap.size 7 _ _ _ (lo c 4) rfl rfl HG7.out.own HR7.out HZ7.out m4.out HG7.out.bel.size ?_; intro v8 w8 oo og ov; have HG8 : Hid (Ga w w8 v8 L3 11) := HG7.out.more og HL3.out p4.out oo; obtain ⟨ga8, gc8, rfl⟩ := HG8.out.shape; have hcv := conv_rd HG8.out.rd; clear oo og ov)
  go_ret
  exact ⟨rfl, HG8.out.bel⟩
end Pr
end Rc
end Go.Proofs.YthdibodmnpcekaaGreatDoor
