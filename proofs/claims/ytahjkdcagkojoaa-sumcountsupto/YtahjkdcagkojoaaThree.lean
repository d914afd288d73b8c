/- SumThree: three rows, laid over one another. -/
import Derived.Test.YtahjkdcagkojoaaSmall
import Derived.Deep.AppendLies
namespace Go.Proofs.Ytahjkdcagkojoaa
set_option linter.ambiguousOpen false
open Go.RowKit
namespace Sm
set_option linter.unusedSimpArgs false
set_option linter.unusedVariables false

/-- Two slices don't lie in one block. -/
def Sp (u v : Value) : Prop := ∀ b, u.ownBlock = some b → v.ownBlock ≠ some b

theorem Sp.symm {u v : Value} (h : Sp u v) : Sp v u := fun b h1 h2 => h b h2 h1

theorem Sp.nil (v : Value) : Sp (.slice none 0 0) v := fun b h => by simp [Value.ownBlock] at h

theorem Sp.kept {u v : Value} {w w' : World} {base n : Nat} {e : TypeId} {size : Nat} {xs : List Value} (hs : Sp u v) (h : w.ownsRow base e size u n xs) (hg : w.grownBy w' v.ownBlock) : w'.ownsRow base e size u n xs := by
  refine h.kept hg ?_
  cases hu : u.ownBlock with
  | none => exact .inl rfl
  | some b => exact .inr fun e => hs b hu e.symm

theorem Sp.new {u v : Value} {w : World} {base n : Nat} {e : TypeId} {size : Nat} {xs : List Value} {g m cap H : Nat} (hs : Sp u v) (h : w.ownsRow base e size u n xs) (hg : v.ownBlock = some g ∨ g = H) (hH : w.heap.size ≤ H) : Sp u (.slice (some ⟨g, 0, none⟩) m cap) := fun b hb hc => by
  have hbg : g = b := by simpa [Value.ownBlock] using hc
  subst hbg
  rcases hg with hg | hg
  · exact hs g hb hg
  · have := (h.lt g hb).2
    omega

def x3 (a b c : List UInt8) : List UInt8 := List.zipWith (fun x y => x ^^^ y) (List.zipWith (fun x y => x ^^^ y) a b) c

theorem x3_len {a b c : List UInt8} {k : Nat} (h1 : a.length = k) (h2 : b.length = k) (h3 : c.length = k) : (x3 a b c).length = k := by
  simp [x3, h1, h2, h3]

theorem x3_append {a b c : List UInt8} {k : Nat} (h1 : a.length = k) (h2 : b.length = k) (h3 : c.length = k) (p q r : UInt8) : x3 (a ++ [p]) (b ++ [q]) (c ++ [r]) = x3 a b c ++ [p ^^^ q ^^^ r] := by
  unfold x3
  rw [List.zipWith_append (by rw [h1, h2]), List.zipWith_append (by simp [h1, h2, h3])]
  rfl

theorem xor3_byte (p q r : UInt8) : bits .xor .u8 (bits .xor .u8 (p.toNat : Int) (q.toNat : Int)) (r.toNat : Int) = ((p ^^^ q ^^^ r).toNat : Int) := by
  rw [u8_xor_nat _ _ (byte_lt p) (byte_lt q), ← UInt8.toNat_xor, u8_xor_nat _ _ (byte_lt _) (byte_lt r), ← UInt8.toNat_xor]

theorem RdB.val {w : World} {v : Value} {l : List UInt8} (h : RdB w v l) : ∃ a cap, v = .slice a l.length cap ∧ l.length ≤ cap ∧ cap ≤ maxLen := by
  obtain ⟨a, cap, h1, h2, h3, _⟩ := h
  exact ⟨a, cap, h1, h2, h3⟩

theorem own_rd' {w : World} {base k : Nat} {v : Value} {l : List UInt8} (h : w.ownsRow base 5 1 v k (l.map by1)) (hl : l.length = k) : RdB w v l := by
  subst hl; exact own_rd h

theorem Hid.mk' {p : Prop} (h : p) : Hid p := h

theorem len_snoc {l : List UInt8} {k : Nat} {p : UInt8} (h : Hid (l.length = k)) : Hid ((l ++ [p]).length = k + 1) := by
  show _ = _
  rw [List.length_append, h.out]; rfl

theorem hbel_cell {w w' : World} {g o : Nat} {v : Value} (h : Below w.heap.size w w') (hg : g < w.heap.size) (hc : w.cell? ⟨g, o, none⟩ = some v) : w'.cell? ⟨g, o, none⟩ = some v := (h.cell (p := ⟨g, o, none⟩) hg).trans hc

set_option maxRecDepth 100000 in
set_option maxHeartbeats 4000000 in
theorem sumThree_walk (va : Value) (la : List UInt8) (vb : Value) (lb : List UInt8) (vc : Value) (lc : List UInt8) (w : World) (hRa : RdB w va la) (hza : la.length ≤ 140737488351232) (hRb : RdB w vb lb) (hzb : lb.length ≤ 140737488351232) (hRc : RdB w vc lc) (hzc : lc.length ≤ 140737488351232) :
    Calls Try.prog 5 #[va, vb, vc] w fun e w' => e = .returned (.bool true) ∧ Below w.heap.size w w' := by
  obtain ⟨i0, hi, hz0, hz1, hz2⟩ := info_parts info_byte
  obtain ⟨aa, ca, rfl, ha1, ha2, hca⟩ := hRa
  obtain ⟨ab, cb, rfl, hb1, hb2, hcb⟩ := hRb
  obtain ⟨ac, cc, rfl, hc1, hc2, hcc⟩ := hRc
  unfold maxLen at ha2 hb2 hc2
  have HA : Hid (0 < la.length → ∃ g o, aa = some ⟨g, o, none⟩ ∧ g < w.heap.size ∧ ∀ j (hj : j < la.length), w.cell? ⟨g, o + j, none⟩ = some (by1 la[j])) := hca
  have HB : Hid (0 < lb.length → ∃ g o, ab = some ⟨g, o, none⟩ ∧ g < w.heap.size ∧ ∀ j (hj : j < lb.length), w.cell? ⟨g, o + j, none⟩ = some (by1 lb[j])) := hcb
  have HC : Hid (0 < lc.length → ∃ g o, ac = some ⟨g, o, none⟩ ∧ g < w.heap.size ∧ ∀ j (hj : j < lc.length), w.cell? ⟨g, o + j, none⟩ = some (by1 lc[j])) := hcc
  clear hca hcb hcc
  go_enter Try.func5, Try.ntmps5
  go_wp2
  go_loopw [7, 8, 9, 10, 11] (fun xv yv zv sv iv wr => ∃ (k : Nat) (lx ly lz : List UInt8), k ≤ la.length ∧ iv = .int .i64 k ∧ Hid (lx.length = k) ∧ Hid (ly.length = k) ∧ Hid (lz.length = k)
      ∧ wr.ownsRow w.heap.size 5 1 xv k (lx.map by1) ∧ wr.ownsRow w.heap.size 5 1 yv k (ly.map by1) ∧ wr.ownsRow w.heap.size 5 1 zv k (lz.map by1) ∧ wr.ownsRow w.heap.size 5 1 sv k ((x3 lx ly lz).map by1)
      ∧ (Sp xv yv ∧ Sp xv zv ∧ Sp xv sv ∧ Sp yv zv ∧ Sp yv sv ∧ Sp zv sv) ∧ Below w.heap.size w wr) (fun _ _ _ _ iv _ => la.length - (intOf iv).toNat)
  case atStart => exact ⟨0, [], [], [], Nat.zero_le _, rfl, rfl, rfl, rfl, World.ownsRow_nil _ _ _ _, World.ownsRow_nil _ _ _ _, World.ownsRow_nil _ _ _ _, World.ownsRow_nil _ _ _ _, ⟨Sp.nil _, Sp.nil _, Sp.nil _, Sp.nil _, Sp.nil _, Sp.nil _⟩, Below.refl _ _⟩
  case round =>
    obtain ⟨k, lx, ly, lz, hk, rfl, hlx, hly, hlz, hx, hy, hz, hs, ⟨xy, xz, xs, yz, ys, zs⟩, hbel⟩ := hrel
    by_cases hpa : k < la.length
    · by_cases hpb : k < lb.length
      · by_cases hpc : k < lc.length
        · skip
          obtain ⟨ga, oa, rfl, hga, hca⟩ := HA.out (by omega)
          obtain ⟨gb, ob, rfl, hgb, hcb⟩ := HB.out (by omega)
          obtain ⟨gc, oc, rfl, hgc, hcc⟩ := HC.out (by omega)
          have cp := hca k hpa
          have cq := hcb k hpb
          have cr := hcc k hpc
          have cp0 := hbel_cell hbel hga cp
          have cq0 := hbel_cell hbel hgb cq
          have cr0 := hbel_cell hbel hgc cr
          have ex := xor3_byte la[k] lb[k] lc[k]
          have ea := Hid.mk' (x3_append hlx.out hly.out hlz.out la[k] lb[k] lc[k])
          clear hca hcb hcc HA HB HC
          generalize la[k] = p at *
          generalize lb[k] = q at *
          generalize lc[k] = r at *
          generalize p ^^^ q ^^^ r = t at *
          go_wp2_with (first | (at_builtin; refine wpList_append_lies _ rfl _ _ 22 rfl w.heap.size 5 i0 (.int .u8 0) 1 1 Try.underlying22 hi hz0 hz1 hz2 rfl (by decide) u7 k (lx.map by1) rfl (hx.alloc _) ⟨wr.heap.size, 0, none⟩ 1 1 [by1 p] rfl rfl (cell_one_new _ _ _) (by simp [Value.oneCell']) (by decide) (by unfold maxLen; omega) (by omega) (by have := hbel.size; simp; omega) (wr.heap.size + 1) (by simp) ?_; intro g1 c1 w1 hx1 hg1 at1 lt1; have hb1 : Below w.heap.size w w1 := Below.grown (hbel.alloc hbel.size _) hg1 (by have := hbel.size; simp; omega) (fun k hk => (hx.lt k hk).1); have hy1 := (Sp.symm xy).kept (hy.alloc _) hg1; have hz1' := (Sp.symm xz).kept (hz.alloc _) hg1; have hs1 := (Sp.symm xs).kept (hs.alloc _) hg1; have xy1 := (Sp.symm xy).new (m := k + 1) (cap := c1) hy at1 (Nat.le_succ _); have xz1 := (Sp.symm xz).new (m := k + 1) (cap := c1) hz at1 (Nat.le_succ _); have xs1 := (Sp.symm xs).new (m := k + 1) (cap := c1) hs at1 (Nat.le_succ _); have cq1 := hbel_cell hb1 hgb cq; have cp1 := hbel_cell hb1 hga cp; have cr1 := hbel_cell hb1 hgc cr) | (at_builtin; refine wpList_append_lies _ rfl _ _ 22 rfl w.heap.size 5 i0 (.int .u8 0) 1 1 Try.underlying22 hi hz0 hz1 hz2 rfl (by decide) u8 k (ly.map by1) rfl (hy1.alloc _) ⟨w1.heap.size, 0, none⟩ 1 1 [by1 q] rfl rfl (cell_one_new _ _ _) (by simp [Value.oneCell']) (by decide) (by unfold maxLen; omega) (by omega) (by have := hb1.size; simp; omega) (w1.heap.size + 1) (by simp) ?_; intro g2 c2 w2 hy2 hg2 at2 lt2; have hb2 : Below w.heap.size w w2 := Below.grown (hb1.alloc hb1.size _) hg2 (by have := hb1.size; simp; omega) (fun k hk => (hy1.lt k hk).1); have hx2 := (Sp.symm xy1).kept (hx1.alloc _) hg2; have hz2' := (Sp.symm yz).kept (hz1'.alloc _) hg2; have hs2 := (Sp.symm ys).kept (hs1.alloc _) hg2; have xy2 := (Sp.symm xy1).new (m := k + 1) (cap := c2) hx1 at2 (Nat.le_succ _); have yz2 := (Sp.symm yz).new (m := k + 1) (cap := c2) hz1' at2 (Nat.le_succ _); have ys2 := (Sp.symm ys).new (m := k + 1) (cap := c2) hs1 at2 (Nat.le_succ _); have cq2 := hbel_cell hb2 hgb cq; have cp2 := hbel_cell hb2 hga cp; have cr2 := hbel_cell hb2 hgc cr) | (at_builtin; refine wpList_append_lies _ rfl _ _ 22 rfl w.heap.size 5 i0 (.int .u8 0) 1 1 Try.underlying22 hi hz0 hz1 hz2 rfl (by decide) u9 k (lz.map by1) rfl (hz2'.alloc _) ⟨w2.heap.size, 0, none⟩ 1 1 [by1 r] rfl rfl (cell_one_new _ _ _) (by simp [Value.oneCell']) (by decide) (by unfold maxLen; omega) (by omega) (by have := hb2.size; simp; omega) (w2.heap.size + 1) (by simp) ?_; intro g3 c3 w3 hz3 hg3 at3 lt3; have hb3 : Below w.heap.size w w3 := Below.grown (hb2.alloc hb2.size _) hg3 (by have := hb2.size; simp; omega) (fun k hk => (hz2'.lt k hk).1); have hx3 := (Sp.symm xz1).kept (hx2.alloc _) hg3; have hy3 := (Sp.symm yz2).kept (hy2.alloc _) hg3; have hs3 := (Sp.symm zs).kept (hs2.alloc _) hg3; have xz3 := (Sp.symm xz1).new (m := k + 1) (cap := c3) hx2 at3 (Nat.le_succ _); have yz3 := (Sp.symm yz2).new (m := k + 1) (cap := c3) hy2 at3 (Nat.le_succ _); have zs3 := (Sp.symm zs).new (m := k + 1) (cap := c3) hs2 at3 (Nat.le_succ _); have cq3 := hbel_cell hb3 hgb cq; have cp3 := hbel_cell hb3 hga cp; have cr3 := hbel_cell hb3 hgc cr))
          clear cp0 cq0 cr0 cp1 cq1 cr1 cp2 cq2 cr2
          have nA : u10.ownBlock ≠ some ga := fun e => by have := (hs3.lt ga e).1; omega
          have nB : u10.ownBlock ≠ some gb := fun e => by have := (hs3.lt gb e).1; omega
          have nC : u10.ownBlock ≠ some gc := fun e => by have := (hs3.lt gc e).1; omega
          have la3 : ga < w3.heap.size := Nat.lt_of_lt_of_le hga hb3.size
          have lb3 : gb < w3.heap.size := Nat.lt_of_lt_of_le hgb hb3.size
          have lc3 : gc < w3.heap.size := Nat.lt_of_lt_of_le hgc hb3.size
          have hz3s := hb3.size
          go_region_held3 (fun w' => w'.cell? ⟨ga, oa + k, none⟩ = some (by1 p) ∧ w'.cell? ⟨gb, ob + k, none⟩ = some (by1 q) ∧ w'.cell? ⟨gc, oc + k, none⟩ = some (by1 r)) (first | go_keep | (go_split_ands; refine ⟨?_, ?_, ?_⟩ <;> first | (rw [hg4.cell_far _ (by simp; omega) (Ne.symm nA)]; assumption) | (rw [hg4.cell_far _ (by simp; omega) (Ne.symm nB)]; assumption) | (rw [hg4.cell_far _ (by simp; omega) (Ne.symm nC)]; assumption))) ((refine step_append_lies _ (by rfl) _ _ 22 (by rfl) w.heap.size 5 i0 (.int .u8 0) 1 1 Try.underlying22 hi hz0 hz1 hz2 rfl (by decide) u10 k ((x3 lx ly lz).map by1) (by rfl) ((hs3.alloc _).drew) ⟨w3.heap.size, 0, none⟩ 1 1 [by1 t] (by rfl) (by rfl) (World.news_of_block (cs := #[by1 t]) (t := 5) (fr := (0, 0)) (heap_alloc_new w3 _)) (by simp [Value.oneCell']) (by decide) (by unfold maxLen; omega) (by omega) (by simp; omega) (w3.heap.size + 1) (by simp) ?_; intro g4 c4 w4 hs4 hg4 at4 lt4))
          have hb4 : Below w.heap.size w w4 := Below.grown (Below.drew (hb3.alloc hb3.size _)) hg4 (by simp; omega) (fun k hk => (hs3.lt k hk).1)
          have hx4 := (Sp.symm xs1).kept ((hx3.alloc _).drew) hg4
          have hy4 := (Sp.symm ys2).kept ((hy3.alloc _).drew) hg4
          have hz4 := (Sp.symm zs3).kept ((hz3.alloc _).drew) hg4
          have xs4 := (Sp.symm xs1).new (m := k + 1) (cap := c4) hx3 at4 (Nat.le_succ _)
          have ys4 := (Sp.symm ys2).new (m := k + 1) (cap := c4) hy3 at4 (Nat.le_succ _)
          have zs4 := (Sp.symm zs3).new (m := k + 1) (cap := c4) hz3 at4 (Nat.le_succ _)
          go_wp2
          go_roundw
          case rel => exact ⟨k + 1, lx ++ [p], ly ++ [q], lz ++ [r], by omega, by go_num, len_snoc hlx, len_snoc hly, len_snoc hlz, (by rw [List.map_append]; exact hx4), (by rw [List.map_append]; exact hy4), (by rw [List.map_append]; exact hz4), (by rw [ea.out, List.map_append]; exact hs4), ⟨xy2, xz3, xs4, yz3, ys4, zs4⟩, hb4⟩
          case measure => simp [intOf]; omega
        · skip
          have r1 := own_rd' hx hlx.out
          have r2 := own_rd' hy hly.out
          have r3 := own_rd' hz hlz.out
          have r4 := own_rd' hs (x3_len hlx.out hly.out hlz.out)
          have H3 := Hid.mk' (crc_three lx ly lz (x3 lx ly lz) (hlx.out.trans hly.out.symm) (hly.out.trans hlz.out.symm) (hlz.out.trans (x3_len hlx.out hly.out hlz.out).symm) (num_zip3 lx ly lz (hlx.out.trans hly.out.symm) (hly.out.trans hlz.out.symm)))
          have l1 := crc_lt lx
          have l2 := crc_lt ly
          have l3 := crc_lt lz
          have c1 := works_any wr
          have C2 := fun w1 (h : Below wr.heap.size wr w1) => of_any u7 lx w1 (r1.below h)
          have C3 := fun w1 (h : Below wr.heap.size wr w1) => of_any u8 ly w1 (r2.below h)
          have C4 := fun w1 (h : Below wr.heap.size wr w1) => of_any u9 lz w1 (r3.below h)
          have C5 := fun w1 (h : Below wr.heap.size wr w1) => of_any u10 (x3 lx ly lz) w1 (r4.below h)
          have K2 := Hid.mk' C2
          have K3 := Hid.mk' C3
          have K4 := Hid.mk' C4
          have K5 := Hid.mk' C5
          clear C2 C3 C4 C5 r1 r2 r3 r4 hlx hly hlz hx hy hz hs xy xz xs yz ys zs
          generalize crc lx = s1 at *
          generalize crc ly = s2 at *
          generalize crc lz = s3 at *
          generalize crc (x3 lx ly lz) = s4 at *
          have e1 := u32_xor_nat s1 s2 l1 l2
          have l4 : s1 ^^^ s2 < 4294967296 := Nat.xor_lt_two_pow (n := 32) l1 l2
          have e2 := u32_xor_nat (s1 ^^^ s2) s3 l4 l3
          rw [H3.out] at e2
          generalize s1 ^^^ s2 = s12 at *
          go_wp2_with fail
          refine c1.mono ?_
          rintro e w1 ⟨rfl, hb1⟩
          go_wp2_with fail
          refine (K2.out w1 hb1).mono ?_
          rintro e w2 ⟨rfl, hb2⟩
          have hB2 : Below wr.heap.size wr w2 := hb1.trans (hb2.mono hb1.size)
          go_wp2_with fail
          refine (K3.out w2 hB2).mono ?_
          rintro e w3 ⟨rfl, hb3⟩
          have hB3 : Below wr.heap.size wr w3 := hB2.trans (hb3.mono hB2.size)
          go_wp2_with fail
          refine (K4.out w3 hB3).mono ?_
          rintro e w4 ⟨rfl, hb4⟩
          have hB4 : Below wr.heap.size wr w4 := hB3.trans (hb4.mono hB3.size)
          go_wp2_with fail
          refine (K5.out w4 hB4).mono ?_
          rintro e w5 ⟨rfl, hb5⟩
          have hB5 : Below wr.heap.size wr w5 := hB4.trans (hb5.mono hB4.size)
          go_wp2
          go_ret
          exact ⟨rfl, hbel.trans (hB5.mono hbel.size)⟩
      · skip
        have r1 := own_rd' hx hlx.out
        have r2 := own_rd' hy hly.out
        have r3 := own_rd' hz hlz.out
        have r4 := own_rd' hs (x3_len hlx.out hly.out hlz.out)
        have H3 := Hid.mk' (crc_three lx ly lz (x3 lx ly lz) (hlx.out.trans hly.out.symm) (hly.out.trans hlz.out.symm) (hlz.out.trans (x3_len hlx.out hly.out hlz.out).symm) (num_zip3 lx ly lz (hlx.out.trans hly.out.symm) (hly.out.trans hlz.out.symm)))
        have l1 := crc_lt lx
        have l2 := crc_lt ly
        have l3 := crc_lt lz
        have c1 := works_any wr
        have C2 := fun w1 (h : Below wr.heap.size wr w1) => of_any u7 lx w1 (r1.below h)
        have C3 := fun w1 (h : Below wr.heap.size wr w1) => of_any u8 ly w1 (r2.below h)
        have C4 := fun w1 (h : Below wr.heap.size wr w1) => of_any u9 lz w1 (r3.below h)
        have C5 := fun w1 (h : Below wr.heap.size wr w1) => of_any u10 (x3 lx ly lz) w1 (r4.below h)
        have K2 := Hid.mk' C2
        have K3 := Hid.mk' C3
        have K4 := Hid.mk' C4
        have K5 := Hid.mk' C5
        clear C2 C3 C4 C5 r1 r2 r3 r4 hlx hly hlz hx hy hz hs xy xz xs yz ys zs
        generalize crc lx = s1 at *
        generalize crc ly = s2 at *
        generalize crc lz = s3 at *
        generalize crc (x3 lx ly lz) = s4 at *
        have e1 := u32_xor_nat s1 s2 l1 l2
        have l4 : s1 ^^^ s2 < 4294967296 := Nat.xor_lt_two_pow (n := 32) l1 l2
        have e2 := u32_xor_nat (s1 ^^^ s2) s3 l4 l3
        rw [H3.out] at e2
        generalize s1 ^^^ s2 = s12 at *
        go_wp2_with fail
        refine c1.mono ?_
        rintro e w1 ⟨rfl, hb1⟩
        go_wp2_with fail
        refine (K2.out w1 hb1).mono ?_
        rintro e w2 ⟨rfl, hb2⟩
        have hB2 : Below wr.heap.size wr w2 := hb1.trans (hb2.mono hb1.size)
        go_wp2_with fail
        refine (K3.out w2 hB2).mono ?_
        rintro e w3 ⟨rfl, hb3⟩
        have hB3 : Below wr.heap.size wr w3 := hB2.trans (hb3.mono hB2.size)
        go_wp2_with fail
        refine (K4.out w3 hB3).mono ?_
        rintro e w4 ⟨rfl, hb4⟩
        have hB4 : Below wr.heap.size wr w4 := hB3.trans (hb4.mono hB3.size)
        go_wp2_with fail
        refine (K5.out w4 hB4).mono ?_
        rintro e w5 ⟨rfl, hb5⟩
        have hB5 : Below wr.heap.size wr w5 := hB4.trans (hb5.mono hB4.size)
        go_wp2
        go_ret
        exact ⟨rfl, hbel.trans (hB5.mono hbel.size)⟩
    · skip
      have r1 := own_rd' hx hlx.out
      have r2 := own_rd' hy hly.out
      have r3 := own_rd' hz hlz.out
      have r4 := own_rd' hs (x3_len hlx.out hly.out hlz.out)
      have H3 := Hid.mk' (crc_three lx ly lz (x3 lx ly lz) (hlx.out.trans hly.out.symm) (hly.out.trans hlz.out.symm) (hlz.out.trans (x3_len hlx.out hly.out hlz.out).symm) (num_zip3 lx ly lz (hlx.out.trans hly.out.symm) (hly.out.trans hlz.out.symm)))
      have l1 := crc_lt lx
      have l2 := crc_lt ly
      have l3 := crc_lt lz
      have c1 := works_any wr
      have C2 := fun w1 (h : Below wr.heap.size wr w1) => of_any u7 lx w1 (r1.below h)
      have C3 := fun w1 (h : Below wr.heap.size wr w1) => of_any u8 ly w1 (r2.below h)
      have C4 := fun w1 (h : Below wr.heap.size wr w1) => of_any u9 lz w1 (r3.below h)
      have C5 := fun w1 (h : Below wr.heap.size wr w1) => of_any u10 (x3 lx ly lz) w1 (r4.below h)
      have K2 := Hid.mk' C2
      have K3 := Hid.mk' C3
      have K4 := Hid.mk' C4
      have K5 := Hid.mk' C5
      clear C2 C3 C4 C5 r1 r2 r3 r4 hlx hly hlz hx hy hz hs xy xz xs yz ys zs
      generalize crc lx = s1 at *
      generalize crc ly = s2 at *
      generalize crc lz = s3 at *
      generalize crc (x3 lx ly lz) = s4 at *
      have e1 := u32_xor_nat s1 s2 l1 l2
      have l4 : s1 ^^^ s2 < 4294967296 := Nat.xor_lt_two_pow (n := 32) l1 l2
      have e2 := u32_xor_nat (s1 ^^^ s2) s3 l4 l3
      rw [H3.out] at e2
      generalize s1 ^^^ s2 = s12 at *
      go_wp2_with fail
      refine c1.mono ?_
      rintro e w1 ⟨rfl, hb1⟩
      go_wp2_with fail
      refine (K2.out w1 hb1).mono ?_
      rintro e w2 ⟨rfl, hb2⟩
      have hB2 : Below wr.heap.size wr w2 := hb1.trans (hb2.mono hb1.size)
      go_wp2_with fail
      refine (K3.out w2 hB2).mono ?_
      rintro e w3 ⟨rfl, hb3⟩
      have hB3 : Below wr.heap.size wr w3 := hB2.trans (hb3.mono hB2.size)
      go_wp2_with fail
      refine (K4.out w3 hB3).mono ?_
      rintro e w4 ⟨rfl, hb4⟩
      have hB4 : Below wr.heap.size wr w4 := hB3.trans (hb4.mono hB3.size)
      go_wp2_with fail
      refine (K5.out w4 hB4).mono ?_
      rintro e w5 ⟨rfl, hb5⟩
      have hB5 : Below wr.heap.size wr w5 := hB4.trans (hb5.mono hB4.size)
      go_wp2
      go_ret
      exact ⟨rfl, hbel.trans (hB5.mono hbel.size)⟩
end Sm
end Go.Proofs.Ytahjkdcagkojoaa
