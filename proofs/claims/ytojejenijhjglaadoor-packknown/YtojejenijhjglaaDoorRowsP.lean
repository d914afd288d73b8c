/- knownRows of PackKnown. -/
import Derived.Test.YtojejenijhjglaaDoorReadsK
import Derived.Test.YtojejenijhjglaaDoorBackK
namespace Go.Proofs.YtojejenijhjglaaDoor
set_option linter.ambiguousOpen false
open Go.RowKit
namespace Pk
open Sm Ft
set_option linter.unusedSimpArgs false
set_option linter.unusedVariables false
variable {RW RR : World → Nat → (Nat → Prop) → List UInt8 → Prop}

def tab8 : List UInt8 := [0, 1, 2, 3, 127, 128, 129, 255]

def asks5 : List Ask := [(false, 0), (true, 2), (true, -1), (false, 0), (true, 1099511627776)]

def qcs (l : List Ask) : List Value := l.flatMap fun r => [.bool r.1, nu r.2]

theorem qcs_at (l : List Ask) (k : Nat) (r : Ask) (h : l[k]? = some r) : (qcs l)[k * 2]? = some (.bool r.1) ∧ (qcs l)[k * 2 + 1]? = some (nu r.2) := by
  induction l generalizing k with
  | nil => simp at h
  | cons a l ih =>
    unfold qcs at *
    rw [List.flatMap_cons]
    cases k with
    | zero =>
      simp at h
      subst h
      exact ⟨rfl, rfl⟩
    | succ k =>
      have h' : l[k]? = some r := by simpa using h
      have := ih k h'
      rw [show (k + 1) * 2 = ([Value.bool a.1, nu a.2] : List Value).length + k * 2 from by simp; omega, show ([Value.bool a.1, nu a.2] : List Value).length + k * 2 + 1 = ([Value.bool a.1, nu a.2] : List Value).length + (k * 2 + 1) by omega]
      rw [List.getElem?_append_right (by omega), List.getElem?_append_right (by omega), Nat.add_sub_cancel_left, Nat.add_sub_cancel_left]
      exact this

/-- The asks from the n-th on, in a block that is known whole. -/
theorem rdQ_at {w : World} {g : Nat} {t : TypeId} (l : List Ask) (n : Nat) (hg : w.heap[g]? = some (.cells (qcs l).toArray t)) (hn : n ≤ l.length) (hl : l.length ≤ 1000) : RdQ w (.slice (some ⟨g, n * 2, none⟩) (l.length - n) (l.length - n)) (l.drop n) := by
  have e : (l.drop n).length = l.length - n := List.length_drop ..
  refine ⟨_, l.length - n, by rw [e], by omega, by unfold maxLen; omega, fun _ => ⟨g, n * 2, rfl, (Array.getElem?_eq_some_iff.1 hg).1, fun k r hr => ?_⟩⟩
  rw [List.getElem?_drop] at hr
  obtain ⟨a1, a2⟩ := qcs_at l (n + k) r hr
  rw [cell_of_row _ g _ _ _ _ hg, cell_of_row _ g _ _ _ _ hg]
  simp only [List.getElem?_toArray]
  rw [show n * 2 + k * 2 = (n + k) * 2 by omega]
  exact ⟨a1, a2⟩

theorem asks_ok (n : Nat) : ∀ r ∈ asks5.drop n, -9223372036854775808 ≤ r.2 ∧ r.2 ≤ 9223372036854775807 := fun r hr => by
  have h := List.mem_of_mem_drop hr
  simp only [asks5, List.mem_cons, List.not_mem_nil, or_false] at h
  rcases h with rfl | rfl | rfl | rfl | rfl <;> decide

/-- The table and the asks, as they lie all the while. -/
def Tq (w : World) (T Q : Nat) : Prop := w.heap[T]? = some (.cells (tab8.map by1).toArray 5) ∧ w.heap[Q]? = some (.cells (qcs asks5).toArray 34)

theorem Tq.below {w w' : World} {T Q : Nat} (h : Tq w T Q) (hb : Below w.heap.size w w') : Tq w' T Q :=
  ⟨(hb.block T (Array.getElem?_eq_some_iff.1 h.1).1).trans h.1, (hb.block Q (Array.getElem?_eq_some_iff.1 h.2).1).trans h.2⟩

theorem Tq.grown {w w' : World} {B : Nat} {row : Option Nat} (h : Tq w B (B + 1)) (hg : w.grownBy w' row) (hr : ∀ k, row = some k → B + 2 ≤ k) : Tq w' B (B + 1) :=
  ⟨(hg.block B (Array.getElem?_eq_some_iff.1 h.1).1 (fun e => by have := hr _ e.symm; omega)).trans h.1, (hg.block (B + 1) (Array.getElem?_eq_some_iff.1 h.2).1 (fun e => by have := hr _ e.symm; omega)).trans h.2⟩

theorem Tq.cell {w : World} {T Q : Nat} (h : Tq w T Q) (i : Nat) (hi : i < 8) : ∃ x : UInt8, w.cell? ⟨T, i, none⟩ = some (.int .u8 (x.toNat : Int)) := by
  have hl : i < tab8.length := hi
  refine ⟨tab8[i], ?_⟩
  rw [cell_of_row _ T _ _ _ _ h.1]
  simp [hl]

/-- An append that hangs on a test that came out so. -/
theorem wpList_append_when {P : Program} (w : World) {ops : Array Oper} {rest : List Oper} {o : Oper} {a : Act} {Q : Exit → Act → World → Prop} (hw : Region.wanted o (yielded ops a.tmps) = true) (s x : Operand) (t : TypeId)
    (ho : o.op = .call { callee := .builtin .append, args := #[s, x], argTypes := #[t, t] })
    (base : Nat) (e : TypeId) (i : TypeInfo) (z : Value) (size bytes : Nat) (ht : P.underlying t = some (.slice e)) (hi : P.info? e = some i) (hz : i.zero = some z)
    (hsize : i.size = size) (hby : i.bytes = bytes) (hzs : z.cells.size = size) (hsz : 0 < size)
    (v : Value) (n : Nat) (xs : List Value) (hs : a.eval s = v) (hown : w.ownsRow base e size v n xs)
    (ad : Addr) (m c : Nat) (news : List Value) (hx : a.eval x = .slice (some ad) m c) (hl : news.length = m * size) (hnews : ∀ j u, news[j]? = some u → w.cell? (ad.add j) = some u) (h1 : ∀ u ∈ news, u.oneCell' = true)
    (h63 : n + m ≤ maxLen) (hbytes : (n + m) * bytes ≤ 140737488355328) (hbase : base ≤ w.heap.size) (hm : 0 < m)
    (h : ∀ v' w', Nm.Grew w w' base e size v v' n xs m news → wpList P ops Q rest (a.put o.dst v') w') : wpList P ops Q (o :: rest) a w := by
  refine wpList_step fun K hK => ?_
  rw [if_pos hw]
  obtain ⟨v', w', hr, hg⟩ := Nm.run_append_keep (P := P) w base t o.type e i z size bytes ht hi hz hsize hby hzs hsz v n xs hown ad m c news hl hnews h1 h63 hbytes hbase hm
  unfold Oper.wp execOp
  simp only [ho, resolve, invoke, builtin, Sem.run_bind, Sem.run_pure, Result.andThen_ok, List.map_toArray, List.map_cons, List.map_nil, hs, hx, hr]
  exact hK _ _ (h v' w' hg)

/-- What such an append leaves: a row with one byte more, the old one as it was. -/
theorem grew_rows {wo w w' : World} {v v' : Value} {n : Nat} {cl : List UInt8} {c : UInt8} (hg : Nm.Grew w w' wo.heap.size 5 1 v v' n (cl.map by1) 1 [by1 c]) (hl : cl.length = n) (ho : w.ownsRow wo.heap.size 5 1 v n (cl.map by1)) (hb : Below wo.heap.size wo w) : RdB w' v' (cl ++ [c]) ∧ w'.ownsRow wo.heap.size 5 1 v n (cl.map by1) ∧ Below wo.heap.size wo w' := by
  refine ⟨?_, hg.keep _ _ _ _ ho (Nat.le_refl _), Below.grown hb hg.grown hb.size (fun k hk => (ho.lt k hk).1)⟩
  have h1 := hg.own
  refine own_rd' (base := wo.heap.size) (k := n + 1) ?_ (by simp [hl])
  rw [List.map_append]
  exact h1

theorem two_aP (w : World) (A B : Obj) : ((w.alloc A).alloc B).heap[w.heap.size]? = some A := (Below.heap_alloc (w.alloc A) B w.heap.size (by simp)).trans (heap_alloc_new w A)

theorem two_bP (w : World) (A B : Obj) : ((w.alloc A).alloc B).heap[w.heap.size + 1]? = some B := by
  have h := heap_alloc_new (w.alloc A) B
  rw [show (w.alloc A).heap.size = w.heap.size + 1 by simp] at h
  exact h

set_option maxRecDepth 100000 in
set_option maxHeartbeats 2000000 in
theorem rows_yes (S : Says RW RR) (w : World) (hE : Er.Handle w) : Calls Tryd.prog 17 #[] w fun e w' => e = .returned (.bool true) ∧ Below w.heap.size w w' := by
  have cR : Hid (∀ wx v b (n : Nat) Q T, RdB wx v b → b.length ≤ 100 → Tq wx T Q → n ≤ 5 → Below w.heap.size w wx → Calls Tryd.prog 3 #[v, .slice (some ⟨Q, n * 2, none⟩) (5 - n) (5 - n)] wx fun e w' => e = .returned (.bool true) ∧ Below w.heap.size w w' ∧ Below wx.heap.size wx w') := fun wx v b n Q T h1 h2 h3 h4 hb => (reads_yes S v _ b (asks5.drop n) wx h1 (rdQ_at asks5 n h3.2 h4 (by decide)) (by omega) (asks_ok n) (hE.below hb)).mono fun _ w' ⟨a, b⟩ => ⟨a, hb.trans (b.mono hb.size), b⟩
  have cK : Hid (∀ wx v b Q T, RdB wx v b → b.length ≤ 100 → Tq wx T Q → Below w.heap.size w wx → Calls Tryd.prog 30 #[v, .slice (some ⟨Q, 0, none⟩) 5 5] wx fun e w' => e = .returned (.bool true) ∧ Below w.heap.size w w' ∧ Below wx.heap.size wx w') := fun wx v b Q T h1 h2 h3 hb => (back_yes S v _ b asks5 wx h1 (rdQ_at asks5 0 h3.2 (by decide) (by decide)) (by omega) (asks_ok 0)).mono fun _ w' ⟨a, b⟩ => ⟨a, hb.trans (b.mono hb.size), b⟩
  have hT : Hid (Tq ((w.alloc (.cells #[.int .u8 0, .int .u8 1, .int .u8 2, .int .u8 3, .int .u8 127, .int .u8 128, .int .u8 129, .int .u8 255] 5)).alloc (.cells #[.bool false, .int .i64 0, .bool true, .int .i64 2, .bool true, .int .i64 (-1), .bool false, .int .i64 0, .bool true, .int .i64 1099511627776] 34)) w.heap.size (w.heap.size + 1)) := ⟨two_aP w _ _, two_bP w _ _⟩
  have hB2 : Hid (Below w.heap.size w ((w.alloc (.cells #[.int .u8 0, .int .u8 1, .int .u8 2, .int .u8 3, .int .u8 127, .int .u8 128, .int .u8 129, .int .u8 255] 5)).alloc (.cells #[.bool false, .int .i64 0, .bool true, .int .i64 2, .bool true, .int .i64 (-1), .bool false, .int .i64 0, .bool true, .int .i64 1099511627776] 34))) := ((Below.refl _ w).alloc (Nat.le_refl _) _).alloc (by simp) _
  go_enter Tryd.func17, Tryd.ntmps17
  go_wp2
  go_loopw [3] (fun iv wr => ∃ i : Nat, i ≤ 8 ∧ iv = nu i ∧ Hid (Below w.heap.size w wr) ∧ Hid (Tq wr w.heap.size (w.heap.size + 1))) (fun iv _ => 8 - (intOf iv).toNat)
  case atStart => exact ⟨0, by omega, rfl, hB2, hT⟩
  case round =>
    clear hB2 hT
    obtain ⟨i, hi, rfl, hB, hQ⟩ := hrel
    by_cases hp : (i : Int) < 8
    · go_wp2
      go_loopw [4] (fun iv wr => ∃ k : Nat, k ≤ 8 ∧ iv = nu k ∧ Hid (Below w.heap.size w wr) ∧ Hid (Tq wr w.heap.size (w.heap.size + 1))) (fun iv _ => 8 - (intOf iv).toNat)
      case atStart => exact ⟨0, by omega, rfl, hB, hQ⟩
      case round =>
        clear hB hQ
        obtain ⟨k, hk, rfl, hB, hQ⟩ := hrel
        by_cases hp2 : (k : Int) < 8
        · go_wp2
          go_loopw [5] (fun iv wr => ∃ j : Nat, j ≤ 8 ∧ iv = nu j ∧ Hid (Below w.heap.size w wr) ∧ Hid (Tq wr w.heap.size (w.heap.size + 1))) (fun iv _ => 8 - (intOf iv).toNat)
          case atStart => exact ⟨0, by omega, rfl, hB, hQ⟩
          case round =>
            clear hB hQ
            obtain ⟨j, hj, rfl, hB, hQ⟩ := hrel
            by_cases hp3 : (j : Int) < 8
            · obtain ⟨x, qx⟩ := hQ.out.cell i (by omega)
              obtain ⟨y, qy⟩ := hQ.out.cell k (by omega)
              obtain ⟨z, qz⟩ := hQ.out.cell j (by omega)
              have y0 : (0 : Int) ≤ (i : Int) := by omega
              have y1 : (0 : Int) ≤ (k : Int) := by omega
              have y2 : (0 : Int) ≤ (j : Int) := by omega
              have hRd : Hid (RdB (wr.alloc (.cells #[.int .u8 (x.toNat : Int), .int .u8 (y.toNat : Int), .int .u8 (z.toNat : Int)] 5)) (.slice (some ⟨wr.heap.size, 0, none⟩) 3 3) [x, y, z]) := rd_new wr [x, y, z] (by show 3 ≤ _; decide)
              have hBa : Hid (Below w.heap.size w (wr.alloc (.cells #[.int .u8 (x.toNat : Int), .int .u8 (y.toNat : Int), .int .u8 (z.toNat : Int)] 5))) := hB.out.alloc hB.out.size _
              have hQa : Hid (Tq (wr.alloc (.cells #[.int .u8 (x.toNat : Int), .int .u8 (y.toNat : Int), .int .u8 (z.toNat : Int)] 5)) w.heap.size (w.heap.size + 1)) := hQ.out.below ((Below.refl _ wr).alloc (Nat.le_refl _) _)
              generalize hxi : (x.toNat : Int) = xi at *
              generalize hyi : (y.toNat : Int) = yi at *
              generalize hzi : (z.toNat : Int) = zi at *
              clear hxi hyi hzi
              go_wp2_with fail
              go_region_held3 (fun w' => w'.cell? ⟨w.heap.size, i, none⟩ = some (.int .u8 xi) ∧ w'.cell? ⟨w.heap.size, k, none⟩ = some (.int .u8 yi) ∧ w'.cell? ⟨w.heap.size, j, none⟩ = some (.int .u8 zi)) (go_keep) (fail)
              have hS := Hid.mk' (Below.refl (wr.alloc (.cells #[.int .u8 xi, .int .u8 yi, .int .u8 zi] 5)).heap.size (wr.alloc (.cells #[.int .u8 xi, .int .u8 yi, .int .u8 zi] 5))).drew
              have hR1 := Hid.mk' (hRd.out.below hS.out)
              have hB1 : Hid (Below w.heap.size w (wr.alloc (.cells #[.int .u8 xi, .int .u8 yi, .int .u8 zi] 5)).drew) := hBa.out.drew
              have hQ1 := Hid.mk' (hQa.out.below hS.out)
              clear hRd hBa hQa hS qx qy qz hB hQ
              have C1 := Hid.mk' (cR.out _ _ _ 0 _ _ hR1.out (by show 3 ≤ _; decide) hQ1.out (by decide) hB1.out)
              clear hB1
              generalize (wr.alloc (.cells #[.int .u8 xi, .int .u8 yi, .int .u8 zi] 5)).drew = wd at *
              go_wp2_with fail
              refine C1.out.mono ?_
              rintro e w3 ⟨rfl, hb3, hb3'⟩
              have R3 := Hid.mk' (hR1.out.below hb3')
              have Q3 := Hid.mk' (hQ1.out.below hb3')
              have C2 := Hid.mk' (cR.out _ _ _ 1 _ _ R3.out (by show 3 ≤ _; decide) Q3.out (by decide) hb3)
              clear hb3 hb3' C1 hR1 hQ1
              go_wp2_with fail
              refine C2.out.mono ?_
              rintro e w4 ⟨rfl, hb4, hb4'⟩
              have R4 := Hid.mk' (R3.out.below hb4')
              have Q4 := Hid.mk' (Q3.out.below hb4')
              have C3 := Hid.mk' (cR.out _ _ _ 4 _ _ R4.out (by show 3 ≤ _; decide) Q4.out (by decide) hb4)
              clear hb4 hb4' C2 R3 Q3
              go_wp2_with fail
              refine C3.out.mono ?_
              rintro e w5 ⟨rfl, hb5, hb5'⟩
              have R5 := Hid.mk' (R4.out.below hb5')
              have Q5 := Hid.mk' (Q4.out.below hb5')
              have C4 := Hid.mk' (cK.out _ _ _ _ _ R5.out (by show 3 ≤ _; decide) Q5.out hb5)
              clear hb5 hb5' C3 R4 Q4
              go_wp2_with fail
              refine C4.out.mono ?_
              rintro e w6 ⟨rfl, hb6, hb6'⟩
              have HB6 := Hid.mk' hb6
              have Q6 := Hid.mk' (Q5.out.below hb6')
              clear hb6 hb6' C4 R5 Q5
              go_wp2
              go_roundw
              case rel => exact ⟨j + 1, by omega, by go_num, HB6, Q6⟩
              case measure => simp [intOf]; omega
            · go_wp2
              go_roundw
              case rel => exact ⟨k + 1, by omega, by go_num, hB, hQ⟩
              case measure => simp [intOf]; omega
        · go_wp2
          go_roundw
          case rel => exact ⟨i + 1, by omega, by go_num, hB, hQ⟩
          case measure => simp [intOf]; omega
    · obtain ⟨i0, hi0, hz0, hz1, hz2⟩ := info_parts info_byte
      go_wp2
      clear hp hi
      go_loopw [7, 8] (fun bv iv wr => ∃ n : Nat, n ≤ 12 ∧ iv = nu n ∧ Hid (wr.ownsRow (w.heap.size + 2) 5 1 bv n ((List.replicate n (255 : UInt8)).map by1)) ∧ Hid (Below w.heap.size w wr) ∧ Hid (Tq wr w.heap.size (w.heap.size + 1))) (fun _ iv _ => 12 - (intOf iv).toNat)
      case atStart => exact ⟨0, by omega, rfl, World.ownsRow_nil _ _ _ _, hB, hQ⟩
      case round =>
        clear hB hQ
        obtain ⟨n, hn, rfl, hO, hB, hQ⟩ := hrel
        obtain ⟨ab, cb, rfl, hcb1, hcb2, _⟩ := Nm.own_shape hO.out
        unfold maxLen at hcb2
        by_cases hp : (n : Int) < 12
        · go_wp2
          rename World => wo
          have cC : Hid (∀ wx, Below wo.heap.size wo wx → Calls Tryd.prog 8 #[.slice ab n cb] wx fun e w' => ∃ ac cc, e = .returned (.slice ac n cc) ∧ w'.ownsRow wo.heap.size 5 1 (.slice ac n cc) n ((List.replicate n (255 : UInt8)).map by1) ∧ Below wo.heap.size wo w' ∧ Below wx.heap.size wx w') := fun wx hb => by
            have hr : RdB wx (.slice ab n cb) (List.replicate n 255) := by
              have := own_rd' (own_keptB hO.out hb) (List.length_replicate ..)
              exact this
            refine (copyB_any _ _ wx hr (by rw [List.length_replicate]; omega)).mono fun e w' ⟨v', a1, a2, a3⟩ => ?_
            rw [List.length_replicate] at a2
            obtain ⟨ac, cc, e, _⟩ := Nm.own_shape a2
            subst e
            exact ⟨ac, cc, a1, own_mono a2 hb.size, hb.trans (a3.mono hb.size), a3⟩
          go_loopw [9] (fun iv wr => ∃ i : Nat, i ≤ 8 ∧ iv = nu i ∧ Hid (Below wo.heap.size wo wr)) (fun iv _ => 8 - (intOf iv).toNat)
          case atStart => exact ⟨0, by omega, rfl, Below.refl _ _⟩
          case round =>
            obtain ⟨i, hi, rfl, hBo⟩ := hrel
            by_cases hp2 : (i : Int) < 8
            · obtain ⟨x, qx⟩ := (hQ.out.below hBo.out).cell i (by omega)
              have y0 : (0 : Int) ≤ (i : Int) := by omega
              have hone : Hid (∀ u ∈ [Value.int .u8 (x.toNat : Int)], u.oneCell' = true) := by intro u hu; simp at hu; subst hu; rfl
              have hTo : w.heap.size < wo.heap.size := (Array.getElem?_eq_some_iff.1 hQ.out.1).1
              have qo : wo.cell? ⟨w.heap.size, i, none⟩ = some (.int .u8 (x.toNat : Int)) := (hBo.out.cell (p := ⟨w.heap.size, i, none⟩) hTo).symm.trans qx
              have hTl : w.heap.size < wr.heap.size := Nat.lt_of_lt_of_le (Array.getElem?_eq_some_iff.1 hQ.out.1).1 hBo.out.size
              generalize hxi : (x.toNat : Int) = xi at *
              have HXI := Hid.mk' hxi
              clear hxi
              go_wp2_with fail
              go_region_held3 (fun w' => w'.cell? ⟨w.heap.size, i, none⟩ = some (.int .u8 xi)) (first | assumption | go_keep | (rw [hg4.cell_far _ (by simp; omega) hfar]; first | assumption | go_keep)) (first | (go_at_call 8; with_reducible refine (cC.out _ ?hb).mono ?_; (case hb => (first | exact hBo.out | exact hBo.out.drew | exact hBo.out.alloc hBo.out.size _ | exact (hBo.out.alloc hBo.out.size _).drew | exact hBo.out.drew.alloc hBo.out.size _ | fail)); rintro e w3 ⟨ac, cc, rfl, ho3, hb3, hb3'⟩; have hw3 : w.heap.size < w3.heap.size := Nat.lt_of_lt_of_le hTo hb3.size; have hS3 : w3.cell? ⟨w.heap.size, i, none⟩ = some (.int .u8 xi) := (hb3.cell (p := ⟨w.heap.size, i, none⟩) hTo).trans qo; have hfar : some w.heap.size ≠ (Value.slice ac n cc).ownBlock := (fun e => by have := (ho3.lt _ e.symm).1; omega)) | (refine step_append_lies _ (by rfl) _ _ 22 (by rfl) wo.heap.size 5 i0 (.int .u8 0) 1 1 Tryd.underlying22 hi0 hz0 hz1 hz2 rfl (by decide) (.slice ac n cc) n ((List.replicate n (255 : UInt8)).map by1) (by rfl) (ho3.alloc _) ⟨w3.heap.size, 0, none⟩ 1 1 [.int .u8 xi] (by rfl) (by rfl) (World.news_of_block (cs := #[.int .u8 xi]) (t := 5) (fr := (0, 0)) (heap_alloc_new w3 _)) hone.out (by decide) (by unfold maxLen; omega) (by omega) (by have := hb3.size; simp; omega) (w3.heap.size + 1) (by simp) ?_; intro g4 c4 w4 ho4 hg4 at4 lt4; have HB4 : Hid (Below wo.heap.size wo w4) := (by first | exact Below.grown hb3 hg4 hb3.size (fun k hk => (ho3.lt k hk).1) | exact Below.grown hb3.drew hg4 hb3.size (fun k hk => (ho3.lt k hk).1) | exact Below.grown (hb3.alloc hb3.size _) hg4 (by have := hb3.size; simp; omega) (fun k hk => (ho3.lt k hk).1) | exact Below.grown (hb3.alloc hb3.size _).drew hg4 (by have := hb3.size; simp; omega) (fun k hk => (ho3.lt k hk).1) | fail)) | (refine step_append_lies _ (by rfl) _ _ 22 (by rfl) wo.heap.size 5 i0 (.int .u8 0) 1 1 Tryd.underlying22 hi0 hz0 hz1 hz2 rfl (by decide) (.slice ac n cc) n ((List.replicate n (255 : UInt8)).map by1) (by rfl) ((ho3.alloc _).drew) ⟨w3.heap.size, 0, none⟩ 1 1 [.int .u8 xi] (by rfl) (by rfl) (World.news_of_block (cs := #[.int .u8 xi]) (t := 5) (fr := (0, 0)) (heap_alloc_new w3 _)) hone.out (by decide) (by unfold maxLen; omega) (by omega) (by have := hb3.size; simp; omega) (w3.heap.size + 1) (by simp) ?_; intro g4 c4 w4 ho4 hg4 at4 lt4; have HB4 : Hid (Below wo.heap.size wo w4) := (by first | exact Below.grown hb3 hg4 hb3.size (fun k hk => (ho3.lt k hk).1) | exact Below.grown hb3.drew hg4 hb3.size (fun k hk => (ho3.lt k hk).1) | exact Below.grown (hb3.alloc hb3.size _) hg4 (by have := hb3.size; simp; omega) (fun k hk => (ho3.lt k hk).1) | exact Below.grown (hb3.alloc hb3.size _).drew hg4 (by have := hb3.size; simp; omega) (fun k hk => (ho3.lt k hk).1) | fail)) | (refine step_append_lies _ (by rfl) _ _ 22 (by rfl) wo.heap.size 5 i0 (.int .u8 0) 1 1 Tryd.underlying22 hi0 hz0 hz1 hz2 rfl (by decide) (.slice ac n cc) n ((List.replicate n (255 : UInt8)).map by1) (by rfl) ho3 ⟨wr.heap.size, 0, none⟩ 1 1 [.int .u8 xi] (by rfl) (by rfl) (World.news_of_block (cs := #[.int .u8 xi]) (t := 5) (fr := (0, 0)) ((hb3'.block wr.heap.size (by simp)).trans (heap_alloc_new wr _))) hone.out (by decide) (by unfold maxLen; omega) (by omega) (by have := hb3.size; first | exact this | (simp; omega)) w3.heap.size rfl ?_; intro g4 c4 w4 ho4 hg4 at4 lt4; have HB4 : Hid (Below wo.heap.size wo w4) := (by first | exact Below.grown hb3 hg4 hb3.size (fun k hk => (ho3.lt k hk).1) | exact Below.grown hb3.drew hg4 hb3.size (fun k hk => (ho3.lt k hk).1) | exact Below.grown (hb3.alloc hb3.size _) hg4 (by have := hb3.size; simp; omega) (fun k hk => (ho3.lt k hk).1) | exact Below.grown (hb3.alloc hb3.size _).drew hg4 (by have := hb3.size; simp; omega) (fun k hk => (ho3.lt k hk).1) | fail)) | (refine step_append_lies _ (by rfl) _ _ 22 (by rfl) wo.heap.size 5 i0 (.int .u8 0) 1 1 Tryd.underlying22 hi0 hz0 hz1 hz2 rfl (by decide) (.slice ac n cc) n ((List.replicate n (255 : UInt8)).map by1) (by rfl) ho3.drew ⟨wr.heap.size, 0, none⟩ 1 1 [.int .u8 xi] (by rfl) (by rfl) (World.news_of_block (cs := #[.int .u8 xi]) (t := 5) (fr := (0, 0)) ((hb3'.block wr.heap.size (by simp)).trans (heap_alloc_new wr _))) hone.out (by decide) (by unfold maxLen; omega) (by omega) (by have := hb3.size; first | exact this | (simp; omega)) w3.heap.size rfl ?_; intro g4 c4 w4 ho4 hg4 at4 lt4; have HB4 : Hid (Below wo.heap.size wo w4) := (by first | exact Below.grown hb3 hg4 hb3.size (fun k hk => (ho3.lt k hk).1) | exact Below.grown hb3.drew hg4 hb3.size (fun k hk => (ho3.lt k hk).1) | exact Below.grown (hb3.alloc hb3.size _) hg4 (by have := hb3.size; simp; omega) (fun k hk => (ho3.lt k hk).1) | exact Below.grown (hb3.alloc hb3.size _).drew hg4 (by have := hb3.size; simp; omega) (fun k hk => (ho3.lt k hk).1) | fail)) | fail)
              all_goals (
                have HO4 : Hid (w4.ownsRow wo.heap.size 5 1 (.slice (some ⟨g4, 0, none⟩) (n + 1) c4) (n + 1) ((List.replicate n (255 : UInt8) ++ [x]).map by1)) := by
                  show w4.ownsRow _ _ _ _ _ _
                  rw [List.map_append, show [x].map by1 = [Value.int .u8 xi] from by show [Value.int .u8 (x.toNat : Int)] = _; rw [HXI.out]]
                  exact ho4
                clear ho4 hg4 at4 lt4 hS3 hw3 hfar ho3 hb3 hb3' qx
                have hlx : (List.replicate n (255 : UInt8) ++ [x]).length = n + 1 := by simp
                obtain ⟨cl, hcl⟩ : ∃ cl, List.replicate n (255 : UInt8) ++ [x] = cl := ⟨_, rfl⟩
                rw [hcl] at hlx HO4
                have HLX := Hid.mk' hlx
                clear hcl hlx
                have hBw : Hid (∀ wx, Below wo.heap.size wo wx → Below w.heap.size w wx) := fun wx hb => hB.out.trans (hb.mono hB.out.size)
                have C1 := Hid.mk' (cR.out w4 _ cl 0 _ _ (own_rd' HO4.out HLX.out) (by have := HLX.out; omega) (hQ.out.below HB4.out) (by decide) (hBw.out _ HB4.out))
                go_wp2_with fail
                refine C1.out.mono ?_
                rintro e w5 ⟨rfl, _, hb5⟩
                have HB5 : Hid (Below wo.heap.size wo w5) := HB4.out.trans (hb5.mono HB4.out.size)
                have HO5 := Hid.mk' (own_keptB HO4.out hb5)
                clear hb5 C1 HO4 HB4
                go_wp2_with (at_builtin; refine wpList_append_when _ (by rfl) _ _ 22 rfl wo.heap.size 5 i0 (.int .u8 0) 1 1 Tryd.underlying22 hi0 hz0 hz1 hz2 rfl (by decide) _ (n + 1) (cl.map by1) rfl (HO5.out.alloc _) ⟨w5.heap.size, 0, none⟩ 1 1 [.int .u8 0] rfl rfl (cell_one_new _ _ _) (by simp [Value.oneCell']) (by unfold maxLen; omega) (by omega) (by have := HB5.out.size; simp; omega) (by decide) ?_; intro v6 w6 hgrew; obtain ⟨hR6, ho6, hb6⟩ := grew_rows (c := 0) hgrew HLX.out (HO5.out.alloc _) (HB5.out.alloc HB5.out.size _); have C6 := Hid.mk' (cR.out w6 _ _ 0 _ _ hR6 (by have := HLX.out; simp; omega) (hQ.out.below hb6) (by decide) (hBw.out _ hb6)); have HO6 := Hid.mk' ho6; have HB6 := Hid.mk' hb6; obtain ⟨a6, c6, ev6, _⟩ := Nm.own_shape hgrew.own; rw [show n + 1 + 1 = n + 2 from rfl] at ev6; subst ev6; clear hR6 ho6 hb6 hgrew)
                go_wp2_with fail
                refine C6.out.mono ?_
                rintro e w7 ⟨rfl, _, hb7⟩
                have HB7 : Hid (Below wo.heap.size wo w7) := HB6.out.trans (hb7.mono HB6.out.size)
                have HO7 := Hid.mk' (own_keptB HO6.out hb7)
                clear hb7 C6 HO6 HB6 HO5 HB5
                go_wp2_with (at_builtin; refine wpList_append_when _ (by rfl) _ _ 22 rfl wo.heap.size 5 i0 (.int .u8 0) 1 1 Tryd.underlying22 hi0 hz0 hz1 hz2 rfl (by decide) _ (n + 1) (cl.map by1) rfl (HO7.out.alloc _) ⟨w7.heap.size, 0, none⟩ 1 1 [.int .u8 1] rfl rfl (cell_one_new _ _ _) (by simp [Value.oneCell']) (by unfold maxLen; omega) (by omega) (by have := HB7.out.size; simp; omega) (by decide) ?_; intro v8 w8 hgrew; obtain ⟨hR8, ho8, hb8⟩ := grew_rows (c := 1) hgrew HLX.out (HO7.out.alloc _) (HB7.out.alloc HB7.out.size _); have C8 := Hid.mk' (cR.out w8 _ _ 0 _ _ hR8 (by have := HLX.out; simp; omega) (hQ.out.below hb8) (by decide) (hBw.out _ hb8)); have HO8 := Hid.mk' ho8; have HB8 := Hid.mk' hb8; obtain ⟨a8, c8, ev8, _⟩ := Nm.own_shape hgrew.own; rw [show n + 1 + 1 = n + 2 from rfl] at ev8; subst ev8; clear hR8 ho8 hb8 hgrew)
                go_wp2_with fail
                refine C8.out.mono ?_
                rintro e w9 ⟨rfl, _, hb9⟩
                have HB9 : Hid (Below wo.heap.size wo w9) := HB8.out.trans (hb9.mono HB8.out.size)
                clear hb9 C8 HO8 HB8 HO7 HB7
                go_wp2
                go_roundw
                case rel => exact ⟨i + 1, by omega, by go_num, HB9⟩
                case measure => simp [intOf]; omega)
            · have hO2 := Hid.mk' (own_keptB hO.out hBo.out)
              have hB2 : Hid (Below w.heap.size w wr) := hB.out.trans (hBo.out.mono hB.out.size)
              have hQ2 := Hid.mk' (hQ.out.below hBo.out)
              have hQl : Hid (w.heap.size + 1 < wr.heap.size) := (Array.getElem?_eq_some_iff.1 hQ2.out.2).1
              have hone : Hid (∀ u ∈ [Value.int .u8 255], u.oneCell' = true) := by intro u hu; simp at hu; subst hu; rfl
              have hrep : Hid ((List.replicate (n + 1) (255 : UInt8)).map by1 = (List.replicate n (255 : UInt8)).map by1 ++ [.int .u8 255]) := by
                show _ = _
                rw [List.replicate_succ', List.map_append]
                rfl
              go_wp2_with (at_builtin; refine wpList_append_own _ rfl _ _ 22 rfl (w.heap.size + 2) 5 i0 (.int .u8 0) 1 1 Tryd.underlying22 hi0 hz0 hz1 hz2 rfl (by decide) _ _ _ rfl (hO2.out.alloc _) ⟨wr.heap.size, 0, none⟩ 1 1 [.int .u8 255] rfl rfl (cell_one_new _ _ _) hone.out (by unfold maxLen; omega) (by omega) (by have := hQl.out; simp; omega) ?_; intro v4 w4 hown4 hgrow _; rw [← hrep.out] at hown4; have hO4 := Hid.mk' hown4; have hal : Below wr.heap.size wr (wr.alloc (.cells #[.int .u8 255] 5)) := (Below.refl _ _).alloc (Nat.le_refl _) _; have hB4 : Hid (Below w.heap.size w w4) := Below.grown (hB2.out.alloc hB2.out.size _) hgrow (by have := hB2.out.size; simp; omega) (fun k hk => by have := (hO2.out.lt k hk).1; omega); have hQ4 : Hid (Tq w4 w.heap.size (w.heap.size + 1)) := (hQ2.out.below hal).grown hgrow (fun k hk => (hO2.out.lt k hk).1); clear hown4 hgrow hal)
              go_wp2
              go_roundw
              case rel => exact ⟨n + 1, by omega, by go_num, hO4, hB4, hQ4⟩
              case measure => simp [intOf]; omega
        · go_wp2
          go_ret
          exact ⟨rfl, hB.out⟩
end Pk
end Go.Proofs.YtojejenijhjglaaDoor
