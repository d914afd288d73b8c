import Derived.Test.YtcleeidfiaafcaaDoorTreZ
import Derived.Test.YtcleeidfiaafcaaDoorTreC
/- The chapter's examples: out of the contracts. -/
namespace Go.Proofs.YtcleeidfiaafcaaDoor
set_option linter.ambiguousOpen false
open Go.RowKit
namespace Tr
open An Rg Ft Lv
set_option linter.unusedSimpArgs false
set_option linter.unusedVariables false

theorem addT_err (S : List Slt) (l i us ub : Int) (h : (addT S l i us ub).no ≠ 0) : (addT S l i us ub).sl = S ∧ (addT S l i us ub).last = l := by
  revert h
  unfold addT
  repeat' split
  all_goals simp

theorem cutT_err (S : List Slt) (l i : Int) (h : (cutT S l i).no ≠ 0) : (cutT S l i).sl = S ∧ (cutT S l i).last = l := by
  revert h
  unfold cutT cutU
  repeat' split
  all_goals simp

/-- The tree amid the examples, and the link to its first slot. -/
def Kn (R : RepTy) (w0 w : World) (p q tb : Nat) (S : List Slt) (l : Int) (m : Nat) : Prop := Lnl w tb 0 1 ∧ ∃ A, A.sl = S ∧ A.wr ≤ m ∧ Su R w0 w p q A l (fun k => k = tb)

section
variable {Rep : World → Nat → (Nat → Prop) → Arn → Prop} {R : RepTy} {w0 w w' : World} {p q tb m : Nat} {S : List Slt} {l : Int}

theorem Kn.bel (h : Kn R w0 w p q tb S l m) : Below w0.heap.size w0 w := by
  obtain ⟨_, A, _, _, h2⟩ := h
  exact h2.bel

theorem Kn.below (C : TreeC Rep R) (h : Kn R w0 w p q tb S l m) (hb : Below w.heap.size w w') : Kn R w0 w' p q tb S l m := by
  obtain ⟨h0, A, h1, h2, h3⟩ := h
  exact ⟨h0.below hb, A, h1, h2, h3.below C hb⟩

theorem Kn.read (h : Kn R w0 w p q tb S l m) : w.cell? ⟨tb, 0, none⟩ = some (nu 0) ∧ w.cell? ⟨tb, 1, none⟩ = some (nu 1) := ⟨h.1.cells.1, h.1.cells.2.1⟩

theorem kn_add (C : TreeC Rep R) (i us ub : Int) (h : Kn R w0 w p q tb S l m) (hm : m ≤ 1000) (hi : I64 i) (hus : I64 us) (hub : I64 ub) :
    Calls Tryd.prog 6 #[ptr q, nu i, lkU us ub] w fun e w' => e = .returned (errP (addT S l i us ub).no (addT S l i us ub).pl) ∧ Kn R w0 w' p q tb (addT S l i us ub).sl (addT S l i us ub).last (m + 8) := by
  obtain ⟨h0, A, rfl, h2, h3⟩ := h
  refine (add_su C i us ub _ h3 (by omega) hi hus hub rfl).mono ?_
  rintro e w' ⟨rfl, A', g1, g2, _, g3, g4⟩
  exact ⟨rfl, h0.keep g4 (fun z => z rfl), A', g2, by omega, g3⟩

theorem kn_cut (C : TreeC Rep R) (i : Int) (h : Kn R w0 w p q tb S l m) (hm : m ≤ 1000) (hi : I64 i) :
    Calls Tryd.prog 10 #[ptr q, nu i] w fun e w' => e = .returned (errP (cutT S l i).no (cutT S l i).pl) ∧ Kn R w0 w' p q tb (cutT S l i).sl (cutT S l i).last (m + 8) := by
  obtain ⟨h0, A, rfl, h2, h3⟩ := h
  refine (cut_su C i _ h3 (by omega) hi rfl).mono ?_
  rintro e w' ⟨rfl, A', g1, g2, _, g3, g4⟩
  exact ⟨rfl, h0.keep g4 (fun z => z rfl), A', g2, by omega, g3⟩

theorem kn_addE (C : TreeC Rep R) (i us ub : Int) (n : Nat) (h : Kn R w0 w p q tb S l m) (hm : m ≤ 1000) (hi : I64 i) (hus : I64 us) (hub : I64 ub) (hn : (addT S l i us ub).no = n ∧ (addT S l i us ub).pl = -1) (h0 : n ≠ 0) :
    Calls Tryd.prog 6 #[ptr q, nu i, lkU us ub] w fun e w' => e = .returned (errP n (-1)) ∧ Kn R w0 w' p q tb S l (m + 8) := by
  have := kn_add C i us ub h hm hi hus hub
  obtain ⟨e1, e2⟩ := addT_err S l i us ub (by rw [hn.1]; exact h0)
  rw [hn.1, hn.2, e1, e2] at this
  exact this

theorem kn_cutE (C : TreeC Rep R) (i : Int) (n : Nat) (pl : Int) (h : Kn R w0 w p q tb S l m) (hm : m ≤ 1000) (hi : I64 i) (hn : (cutT S l i).no = n ∧ (cutT S l i).pl = pl) (h0 : n ≠ 0) :
    Calls Tryd.prog 10 #[ptr q, nu i] w fun e w' => e = .returned (errP n pl) ∧ Kn R w0 w' p q tb S l (m + 8) := by
  have := kn_cut C i h hm hi
  obtain ⟨e1, e2⟩ := cutT_err S l i (by rw [hn.1]; exact h0)
  rw [hn.1, hn.2, e1, e2] at this
  exact this

theorem kn_last (C : TreeC Rep R) (h : Kn R w0 w p q tb S l m) : Calls Tryd.prog 7 #[ptr q] w fun e w' => e = .returned (nu l) ∧ Kn R w0 w' p q tb S l m := by
  obtain ⟨h0, A, h1, h2, h3⟩ := id h
  refine (last_su C h3).mono ?_
  rintro e w' ⟨rfl, hb⟩
  exact ⟨rfl, h.below C hb⟩

/-- What is listed. -/
theorem kn_list (C : TreeC Rep R) (i : Int) (hi : I64 i) (h : Kn R w0 w p q tb S l m) (L : List Nat) (x : Int) (hx : x = 0 ∧ allL S l = L ∨ x = 1 ∧ kidsL S i = L ∨ x = 2 ∧ undL S i = L) :
    Calls Tryd.prog 9 #[ptr q, nu x, nu i] w fun e w' => ∃ a c, e = .returned (.slice a L.length c) ∧ Hid (RdN w' (.slice a L.length c) L ∧ Kn R w0 w' p q tb S l m) := by
  obtain ⟨h0, A, rfl, h2, h3⟩ := id h
  have key : ∀ K : List Nat, K = L → (Calls Tryd.prog 9 #[ptr q, nu x, nu i] w fun e w' => ∃ v, e = .returned v ∧ w'.ownsRow w.heap.size 3 1 v K.length (K.map nun) ∧ Below w.heap.size w w') → Calls Tryd.prog 9 #[ptr q, nu x, nu i] w fun e w' => ∃ a c, e = .returned (.slice a L.length c) ∧ Hid (RdN w' (.slice a L.length c) L ∧ Kn R w0 w' p q tb A.sl l m) := fun K e c => by
    subst e
    refine c.mono ?_
    rintro e w' ⟨v, rfl, ho, hb⟩
    obtain ⟨a, c, rfl, _⟩ := Nm.own_shape ho
    exact ⟨a, c, rfl, own_rdN ho, h.below C hb⟩
  obtain ⟨c0, c1, c2⟩ := su_list C h3 i hi
  rcases hx with ⟨rfl, e⟩ | ⟨rfl, e⟩ | ⟨rfl, e⟩
  · exact key _ e c0
  · exact key _ e c1
  · exact key _ e c2

/-- It is held against a list that is written out. -/
theorem kn_same (C : TreeC Rep R) (h : Kn R w0 w p q tb S l m) (L : List Nat) (n : Nat) (hn : L.length = n) (h32 : n ≤ 32) (cs : Array Value) (hcs : cs.toList = L.map nun) (v : Value) (hv : RdN w v L) :
    Calls Tryd.prog 8 #[v, .slice (some ⟨w.heap.size, 0, none⟩) n n] (w.alloc (.cells cs 3)) fun e w' => e = .returned (.bool true) ∧ Hid (Kn R w0 w' p q tb S l m) := by
  have hB : Below w.heap.size w (w.alloc (.cells cs 3)) := (Below.refl _ _).alloc (Nat.le_refl _) _
  have hsz : cs.size = n := by rw [← Array.length_toList, hcs, List.length_map, hn]
  have hR : RdN (w.alloc (.cells cs 3)) (.slice (some ⟨w.heap.size, 0, none⟩) n n) L := own_rdN (base := w.heap.size) (n := n) ⟨by simp [hn], .inr ⟨w.heap.size, n, cs, rfl, Nat.le_refl _, heap_alloc_new _ _, Nat.le_refl _, by unfold maxLen; omega, by omega, by rw [hcs, Nat.mul_one, List.take_of_length_le (by simp [hn])]⟩⟩
  refine (sameN v _ L _ (hv.below hB) hR).mono ?_
  rintro e w' ⟨rfl, hb⟩
  exact ⟨rfl, (h.below C hB).below C hb⟩

theorem kn_told (C : TreeC Rep R) (hE : Er.Handle w0) (h : Kn R w0 w p q tb S l m) (no : Nat) (pl : Int) (h1 : no ≤ 24) (h2 : 0 ≤ pl → 1 ≤ no) :
    Calls Tryd.prog 11 #[errP no pl, nun no, nu pl] w fun e w' => e = .returned (.bool true) ∧ Kn R w0 w' p q tb S l m := by
  refine (told17 no pl h1 h2 w (hE.below h.bel)).mono ?_
  rintro e w' ⟨rfl, hb⟩
  exact ⟨rfl, h.below C hb⟩
end

/-! ### The states -/

def kA : TAns := addT (usedS 5) (-1) 0 77 0

def kB : TAns := addT kA.sl kA.last 1 0 1

def kC : TAns := addT kB.sl kB.last 2 0 1

def kD : TAns := addT kC.sl kC.last 3 1 2

def kE : TAns := cutT kD.sl kD.last 1

def kF : TAns := cutT kE.sl kE.last 0

theorem k_ok : (kA.no = 0 ∧ kA.pl = -1) ∧ (kB.no = 0 ∧ kB.pl = -1) ∧ (kC.no = 0 ∧ kC.pl = -1) ∧ (kD.no = 0 ∧ kD.pl = -1) ∧ (kE.no = 0 ∧ kE.pl = -1) ∧ (kF.no = 0 ∧ kF.pl = -1) := by decide +kernel

theorem k_last : kD.last = 0 ∧ kE.last = 0 ∧ kF.last = -1 := by decide +kernel

theorem k_lists : kidsL kD.sl 0 = [1, 2] ∧ undL kD.sl 0 = [0, 1, 3, 2] ∧ undL kD.sl 32 = [] ∧ kidsL kD.sl (-1) = [] ∧ kidsL kE.sl 0 = [2] ∧ undL kE.sl 0 = [0, 2] ∧ undL kE.sl 1 = [1, 3] ∧ allL kF.sl (-1) = [] := by decide +kernel

theorem k_errs : ((addT kD.sl 0 9 0 0).no = 10 ∧ (addT kD.sl 0 9 0 0).pl = -1) ∧ ((addT kD.sl 0 32 0 0).no = 1 ∧ (addT kD.sl 0 32 0 0).pl = -1) ∧ ((addT kD.sl 0 4 0 7).no = 10 ∧ (addT kD.sl 0 4 0 7).pl = -1) ∧ ((addT kD.sl 0 4 4 5).no = 9 ∧ (addT kD.sl 0 4 4 5).pl = -1) ∧ ((addT kD.sl 0 2 0 1).no = 9 ∧ (addT kD.sl 0 2 0 1).pl = -1) ∧ ((addT kD.sl 0 4 32 1).no = 1 ∧ (addT kD.sl 0 4 32 1).pl = -1) ∧ ((cutT kD.sl 0 9).no = 10 ∧ (cutT kD.sl 0 9).pl = -1) ∧ ((cutT kE.sl 0 1).no = 24 ∧ (cutT kE.sl 0 1).pl = 1) := by decide +kernel

set_option maxRecDepth 100000 in
set_option maxHeartbeats 16000000 in
theorem treeKnown_yes {Rep : World → Nat → (Nat → Prop) → Arn → Prop} {R : RepTy} (HH : KeepC Rep) (CN : NewC Rep) (CP : PutC Rep) (C : TreeC Rep R) (w : World) (hE : Er.Handle w) :
    Calls Tryd.prog 3 #[] w fun e w' => e = .returned (.bool true) ∧ Below w.heap.size w w' := by
  have cU := Hid.mk' (used_any HH CN CP C 5 (by omega) w)
  have cN : Hid (∀ wx p q, Su R w wx p q ⟨usedS 5, arn0.fr, 5⟩ (-1) (fun _ => False) → Kn R w (wx.alloc (.cells #[nu 0, nu 1] 27)) p q wx.heap.size (usedS 5) (-1) 5) := fun wx p q h => by
    have hB : Below wx.heap.size wx (wx.alloc (.cells #[nu 0, nu 1] 27)) := (Below.refl _ _).alloc (Nat.le_refl _) _
    exact ⟨lnl_new _ _ _, ⟨usedS 5, arn0.fr, 5⟩, rfl, Nat.le_refl _, h.more C hB (fun k hk => .inr ⟨by omega, by rw [World.size_alloc]; omega⟩)⟩
  have cW : Hid (∀ wx p q tb, Kn R w wx p q tb (usedS 5) (-1) 5 → Calls Tryd.prog 5 #[] wx fun e w' => e = .returned (.bool true) ∧ (w'.cell? ⟨tb, 0, none⟩ = some (nu 0) ∧ w'.cell? ⟨tb, 1, none⟩ = some (nu 1)) ∧ Hid (Kn R w w' p q tb (usedS 5) (-1) 5)) := fun wx p q tb h => by
    refine (works_any HH CN CP C wx).mono ?_
    rintro e w' ⟨rfl, hb⟩
    have h' := h.below C hb
    exact ⟨rfl, h'.read, h'⟩
  have c0 : Hid (∀ wx p q tb, Kn R w wx p q tb (usedS 5) (-1) 5 → Calls Tryd.prog 6 #[ptr q, nu 0, lkU 77 0] wx fun e w' => e = .returned (.nilIface) ∧ (w'.cell? ⟨tb, 0, none⟩ = some (nu 0) ∧ w'.cell? ⟨tb, 1, none⟩ = some (nu 1)) ∧ Hid (Kn R w w' p q tb kA.sl kA.last 13)) := fun wx p q tb h => by
    have c := kn_add C 0 77 0 h (by omega) ⟨by omega, by omega⟩ ⟨by omega, by omega⟩ ⟨by omega, by omega⟩
    have e0 : addT (usedS 5) (-1) 0 77 0 = kA := rfl
    rw [e0, k_ok.1.1, k_ok.1.2] at c
    refine c.mono ?_
    rintro e w' ⟨rfl, h'⟩
    exact ⟨rfl, h'.read, h'⟩
  have c1 : Hid (∀ wx p q tb, Kn R w wx p q tb kA.sl kA.last 13 → Calls Tryd.prog 6 #[ptr q, nu 1, lkU 0 1] wx fun e w' => e = .returned (.nilIface) ∧ (w'.cell? ⟨tb, 0, none⟩ = some (nu 0) ∧ w'.cell? ⟨tb, 1, none⟩ = some (nu 1)) ∧ Hid (Kn R w w' p q tb kB.sl kB.last 21)) := fun wx p q tb h => by
    have c := kn_add C 1 0 1 h (by omega) ⟨by omega, by omega⟩ ⟨by omega, by omega⟩ ⟨by omega, by omega⟩
    have e0 : addT kA.sl kA.last 1 0 1 = kB := rfl
    rw [e0, k_ok.2.1.1, k_ok.2.1.2] at c
    refine c.mono ?_
    rintro e w' ⟨rfl, h'⟩
    exact ⟨rfl, h'.read, h'⟩
  have c2 : Hid (∀ wx p q tb, Kn R w wx p q tb kB.sl kB.last 21 → Calls Tryd.prog 6 #[ptr q, nu 2, lkU 0 1] wx fun e w' => e = .returned (.nilIface) ∧ (w'.cell? ⟨tb, 0, none⟩ = some (nu 0) ∧ w'.cell? ⟨tb, 1, none⟩ = some (nu 1)) ∧ Hid (Kn R w w' p q tb kC.sl kC.last 29)) := fun wx p q tb h => by
    have c := kn_add C 2 0 1 h (by omega) ⟨by omega, by omega⟩ ⟨by omega, by omega⟩ ⟨by omega, by omega⟩
    have e0 : addT kB.sl kB.last 2 0 1 = kC := rfl
    rw [e0, k_ok.2.2.1.1, k_ok.2.2.1.2] at c
    refine c.mono ?_
    rintro e w' ⟨rfl, h'⟩
    exact ⟨rfl, h'.read, h'⟩
  have c3 : Hid (∀ wx p q tb, Kn R w wx p q tb kC.sl kC.last 29 → Calls Tryd.prog 6 #[ptr q, nu 3, lkU 1 2] wx fun e w' => e = .returned (.nilIface) ∧ (w'.cell? ⟨tb, 0, none⟩ = some (nu 0) ∧ w'.cell? ⟨tb, 1, none⟩ = some (nu 1)) ∧ Hid (Kn R w w' p q tb kD.sl 0 37)) := fun wx p q tb h => by
    have c := kn_add C 3 1 2 h (by omega) ⟨by omega, by omega⟩ ⟨by omega, by omega⟩ ⟨by omega, by omega⟩
    have e0 : addT kC.sl kC.last 3 1 2 = kD := rfl
    rw [e0, k_ok.2.2.2.1.1, k_ok.2.2.2.1.2, k_last.1] at c
    refine c.mono ?_
    rintro e w' ⟨rfl, h'⟩
    exact ⟨rfl, h'.read, h'⟩
  have c4 : Hid (∀ wx p q tb, Kn R w wx p q tb kD.sl 0 37 → Calls Tryd.prog 7 #[ptr q] wx fun e w' => e = .returned (nu 0) ∧ Hid (Kn R w w' p q tb kD.sl 0 37)) := fun wx p q tb h => kn_last C h
  have c5 : Hid (∀ wx p q tb, Kn R w wx p q tb kD.sl 0 37 → Calls Tryd.prog 9 #[ptr q, nu 1, nu 0] wx fun e w' => ∃ a c, e = .returned (.slice a 2 c) ∧ Hid (RdN w' (.slice a 2 c) [1, 2] ∧ Kn R w w' p q tb kD.sl 0 37)) := fun wx p q tb h => kn_list C 0 ⟨by omega, by omega⟩ h [1, 2] 1 (.inr (.inl ⟨rfl, k_lists.1⟩))
  have c5s : Hid (∀ wx p q tb a c, RdN wx (.slice a 2 c) [1, 2] ∧ Kn R w wx p q tb kD.sl 0 37 → Calls Tryd.prog 8 #[.slice a 2 c, .slice (some ⟨wx.heap.size, 0, none⟩) 2 2] (wx.alloc (.cells #[nu 1, nu 2] 3)) fun e w' => e = .returned (.bool true) ∧ Hid (Kn R w w' p q tb kD.sl 0 37)) := fun wx p q tb a c h => kn_same C h.2 [1, 2] 2 rfl (by omega) #[nu 1, nu 2] rfl _ h.1
  have c6 : Hid (∀ wx p q tb, Kn R w wx p q tb kD.sl 0 37 → Calls Tryd.prog 9 #[ptr q, nu 2, nu 0] wx fun e w' => ∃ a c, e = .returned (.slice a 4 c) ∧ Hid (RdN w' (.slice a 4 c) [0, 1, 3, 2] ∧ Kn R w w' p q tb kD.sl 0 37)) := fun wx p q tb h => kn_list C 0 ⟨by omega, by omega⟩ h [0, 1, 3, 2] 2 (.inr (.inr ⟨rfl, k_lists.2.1⟩))
  have c6s : Hid (∀ wx p q tb a c, RdN wx (.slice a 4 c) [0, 1, 3, 2] ∧ Kn R w wx p q tb kD.sl 0 37 → Calls Tryd.prog 8 #[.slice a 4 c, .slice (some ⟨wx.heap.size, 0, none⟩) 4 4] (wx.alloc (.cells #[nu 0, nu 1, nu 3, nu 2] 3)) fun e w' => e = .returned (.bool true) ∧ Hid (Kn R w w' p q tb kD.sl 0 37)) := fun wx p q tb a c h => kn_same C h.2 [0, 1, 3, 2] 4 rfl (by omega) #[nu 0, nu 1, nu 3, nu 2] rfl _ h.1
  have c7 : Hid (∀ wx p q tb, Kn R w wx p q tb kD.sl 0 37 → Calls Tryd.prog 9 #[ptr q, nu 2, nu 32] wx fun e w' => ∃ a c, e = .returned (.slice a 0 c) ∧ Hid (RdN w' (.slice a 0 c) [] ∧ Kn R w w' p q tb kD.sl 0 37)) := fun wx p q tb h => kn_list C 32 ⟨by omega, by omega⟩ h [] 2 (.inr (.inr ⟨rfl, k_lists.2.2.1⟩))
  have c8 : Hid (∀ wx p q tb, Kn R w wx p q tb kD.sl 0 37 → Calls Tryd.prog 9 #[ptr q, nu 1, nu (-1)] wx fun e w' => ∃ a c, e = .returned (.slice a 0 c) ∧ Hid (RdN w' (.slice a 0 c) [] ∧ Kn R w w' p q tb kD.sl 0 37)) := fun wx p q tb h => kn_list C (-1) ⟨by omega, by omega⟩ h [] 1 (.inr (.inl ⟨rfl, k_lists.2.2.2.1⟩))
  have c9 : Hid (∀ wx p q tb, Kn R w wx p q tb kD.sl 0 37 → Calls Tryd.prog 6 #[ptr q, nu 9, lkU 0 0] wx fun e w' => e = .returned (.iface 61 (.int .i64 10)) ∧ (w'.cell? ⟨tb, 0, none⟩ = some (nu 0) ∧ w'.cell? ⟨tb, 1, none⟩ = some (nu 1)) ∧ Hid (Kn R w w' p q tb kD.sl 0 45)) := fun wx p q tb h => by
    have c := kn_addE C 9 0 0 10 h (by omega) ⟨by omega, by omega⟩ ⟨by omega, by omega⟩ ⟨by omega, by omega⟩ k_errs.1 (by decide)
    refine c.mono ?_
    rintro e w' ⟨rfl, h'⟩
    exact ⟨rfl, h'.read, h'⟩
  have c10 : Hid (∀ wx p q tb, Kn R w wx p q tb kD.sl 0 45 → Calls Tryd.prog 6 #[ptr q, nu 32, lkU 0 0] wx fun e w' => e = .returned (.iface 61 (.int .i64 1)) ∧ (w'.cell? ⟨tb, 0, none⟩ = some (nu 0) ∧ w'.cell? ⟨tb, 1, none⟩ = some (nu 1)) ∧ Hid (Kn R w w' p q tb kD.sl 0 53)) := fun wx p q tb h => by
    have c := kn_addE C 32 0 0 1 h (by omega) ⟨by omega, by omega⟩ ⟨by omega, by omega⟩ ⟨by omega, by omega⟩ k_errs.2.1 (by decide)
    refine c.mono ?_
    rintro e w' ⟨rfl, h'⟩
    exact ⟨rfl, h'.read, h'⟩
  have c11 : Hid (∀ wx p q tb, Kn R w wx p q tb kD.sl 0 53 → Calls Tryd.prog 6 #[ptr q, nu 4, lkU 0 7] wx fun e w' => e = .returned (.iface 61 (.int .i64 10)) ∧ (w'.cell? ⟨tb, 0, none⟩ = some (nu 0) ∧ w'.cell? ⟨tb, 1, none⟩ = some (nu 1)) ∧ Hid (Kn R w w' p q tb kD.sl 0 61)) := fun wx p q tb h => by
    have c := kn_addE C 4 0 7 10 h (by omega) ⟨by omega, by omega⟩ ⟨by omega, by omega⟩ ⟨by omega, by omega⟩ k_errs.2.2.1 (by decide)
    refine c.mono ?_
    rintro e w' ⟨rfl, h'⟩
    exact ⟨rfl, h'.read, h'⟩
  have c12 : Hid (∀ wx p q tb, Kn R w wx p q tb kD.sl 0 61 → Calls Tryd.prog 6 #[ptr q, nu 4, lkU 4 5] wx fun e w' => e = .returned (.iface 61 (.int .i64 9)) ∧ (w'.cell? ⟨tb, 0, none⟩ = some (nu 0) ∧ w'.cell? ⟨tb, 1, none⟩ = some (nu 1)) ∧ Hid (Kn R w w' p q tb kD.sl 0 69)) := fun wx p q tb h => by
    have c := kn_addE C 4 4 5 9 h (by omega) ⟨by omega, by omega⟩ ⟨by omega, by omega⟩ ⟨by omega, by omega⟩ k_errs.2.2.2.1 (by decide)
    refine c.mono ?_
    rintro e w' ⟨rfl, h'⟩
    exact ⟨rfl, h'.read, h'⟩
  have c13 : Hid (∀ wx p q tb, Kn R w wx p q tb kD.sl 0 69 → Calls Tryd.prog 6 #[ptr q, nu 2, lkU 0 1] wx fun e w' => e = .returned (.iface 61 (.int .i64 9)) ∧ (w'.cell? ⟨tb, 0, none⟩ = some (nu 0) ∧ w'.cell? ⟨tb, 1, none⟩ = some (nu 1)) ∧ Hid (Kn R w w' p q tb kD.sl 0 77)) := fun wx p q tb h => by
    have c := kn_addE C 2 0 1 9 h (by omega) ⟨by omega, by omega⟩ ⟨by omega, by omega⟩ ⟨by omega, by omega⟩ k_errs.2.2.2.2.1 (by decide)
    refine c.mono ?_
    rintro e w' ⟨rfl, h'⟩
    exact ⟨rfl, h'.read, h'⟩
  have c14 : Hid (∀ wx p q tb, Kn R w wx p q tb kD.sl 0 77 → Calls Tryd.prog 6 #[ptr q, nu 4, lkU 32 1] wx fun e w' => e = .returned (.iface 61 (.int .i64 1)) ∧ (w'.cell? ⟨tb, 0, none⟩ = some (nu 0) ∧ w'.cell? ⟨tb, 1, none⟩ = some (nu 1)) ∧ Hid (Kn R w w' p q tb kD.sl 0 85)) := fun wx p q tb h => by
    have c := kn_addE C 4 32 1 1 h (by omega) ⟨by omega, by omega⟩ ⟨by omega, by omega⟩ ⟨by omega, by omega⟩ k_errs.2.2.2.2.2.1 (by decide)
    refine c.mono ?_
    rintro e w' ⟨rfl, h'⟩
    exact ⟨rfl, h'.read, h'⟩
  have c15 : Hid (∀ wx p q tb, Kn R w wx p q tb kD.sl 0 85 → Calls Tryd.prog 10 #[ptr q, nu 9] wx fun e w' => e = .returned (.iface 61 (.int .i64 10)) ∧ (w'.cell? ⟨tb, 0, none⟩ = some (nu 0) ∧ w'.cell? ⟨tb, 1, none⟩ = some (nu 1)) ∧ Hid (Kn R w w' p q tb kD.sl 0 93)) := fun wx p q tb h => by
    have c := kn_cutE C 9 10 (-1) h (by omega) ⟨by omega, by omega⟩ k_errs.2.2.2.2.2.2.1 (by decide)
    refine c.mono ?_
    rintro e w' ⟨rfl, h'⟩
    exact ⟨rfl, h'.read, h'⟩
  have c16 : Hid (∀ wx p q tb, Kn R w wx p q tb kD.sl 0 93 → Calls Tryd.prog 11 #[.iface 61 (.int .i64 10), nu 10, nu (-1)] wx fun e w' => e = .returned (.bool true) ∧ Hid (Kn R w w' p q tb kD.sl 0 93)) := fun wx p q tb h => kn_told C hE h 10 (-1) (by decide) (by decide)
  have c17 : Hid (∀ wx p q tb, Kn R w wx p q tb kD.sl 0 93 → Calls Tryd.prog 11 #[.iface 61 (.int .i64 1), nu 1, nu (-1)] wx fun e w' => e = .returned (.bool true) ∧ Hid (Kn R w w' p q tb kD.sl 0 93)) := fun wx p q tb h => kn_told C hE h 1 (-1) (by decide) (by decide)
  have c18 : Hid (∀ wx p q tb, Kn R w wx p q tb kD.sl 0 93 → Calls Tryd.prog 11 #[.iface 61 (.int .i64 10), nu 10, nu (-1)] wx fun e w' => e = .returned (.bool true) ∧ Hid (Kn R w w' p q tb kD.sl 0 93)) := fun wx p q tb h => kn_told C hE h 10 (-1) (by decide) (by decide)
  have c19 : Hid (∀ wx p q tb, Kn R w wx p q tb kD.sl 0 93 → Calls Tryd.prog 11 #[.iface 61 (.int .i64 9), nu 9, nu (-1)] wx fun e w' => e = .returned (.bool true) ∧ Hid (Kn R w w' p q tb kD.sl 0 93)) := fun wx p q tb h => kn_told C hE h 9 (-1) (by decide) (by decide)
  have c20 : Hid (∀ wx p q tb, Kn R w wx p q tb kD.sl 0 93 → Calls Tryd.prog 11 #[.iface 61 (.int .i64 9), nu 9, nu (-1)] wx fun e w' => e = .returned (.bool true) ∧ Hid (Kn R w w' p q tb kD.sl 0 93)) := fun wx p q tb h => kn_told C hE h 9 (-1) (by decide) (by decide)
  have c21 : Hid (∀ wx p q tb, Kn R w wx p q tb kD.sl 0 93 → Calls Tryd.prog 11 #[.iface 61 (.int .i64 1), nu 1, nu (-1)] wx fun e w' => e = .returned (.bool true) ∧ Hid (Kn R w w' p q tb kD.sl 0 93)) := fun wx p q tb h => kn_told C hE h 1 (-1) (by decide) (by decide)
  have c22 : Hid (∀ wx p q tb, Kn R w wx p q tb kD.sl 0 93 → Calls Tryd.prog 11 #[.iface 61 (.int .i64 10), nu 10, nu (-1)] wx fun e w' => e = .returned (.bool true) ∧ Hid (Kn R w w' p q tb kD.sl 0 93)) := fun wx p q tb h => kn_told C hE h 10 (-1) (by decide) (by decide)
  have c23 : Hid (∀ wx p q tb, Kn R w wx p q tb kD.sl 0 93 → Calls Tryd.prog 10 #[ptr q, nu 1] wx fun e w' => e = .returned (.nilIface) ∧ (w'.cell? ⟨tb, 0, none⟩ = some (nu 0) ∧ w'.cell? ⟨tb, 1, none⟩ = some (nu 1)) ∧ Hid (Kn R w w' p q tb kE.sl 0 101)) := fun wx p q tb h => by
    have c := kn_cut C 1 h (by omega) ⟨by omega, by omega⟩
    have e0 : cutT kD.sl 0 1 = kE := by unfold kE; rw [k_last.1]
    rw [e0, k_ok.2.2.2.2.1.1, k_ok.2.2.2.2.1.2, k_last.2.1] at c
    refine c.mono ?_
    rintro e w' ⟨rfl, h'⟩
    exact ⟨rfl, h'.read, h'⟩
  have c24 : Hid (∀ wx p q tb, Kn R w wx p q tb kE.sl 0 101 → Calls Tryd.prog 9 #[ptr q, nu 1, nu 0] wx fun e w' => ∃ a c, e = .returned (.slice a 1 c) ∧ Hid (RdN w' (.slice a 1 c) [2] ∧ Kn R w w' p q tb kE.sl 0 101)) := fun wx p q tb h => kn_list C 0 ⟨by omega, by omega⟩ h [2] 1 (.inr (.inl ⟨rfl, k_lists.2.2.2.2.1⟩))
  have c24s : Hid (∀ wx p q tb a c, RdN wx (.slice a 1 c) [2] ∧ Kn R w wx p q tb kE.sl 0 101 → Calls Tryd.prog 8 #[.slice a 1 c, .slice (some ⟨wx.heap.size, 0, none⟩) 1 1] (wx.alloc (.cells #[nu 2] 3)) fun e w' => e = .returned (.bool true) ∧ Hid (Kn R w w' p q tb kE.sl 0 101)) := fun wx p q tb a c h => kn_same C h.2 [2] 1 rfl (by omega) #[nu 2] rfl _ h.1
  have c25 : Hid (∀ wx p q tb, Kn R w wx p q tb kE.sl 0 101 → Calls Tryd.prog 9 #[ptr q, nu 2, nu 0] wx fun e w' => ∃ a c, e = .returned (.slice a 2 c) ∧ Hid (RdN w' (.slice a 2 c) [0, 2] ∧ Kn R w w' p q tb kE.sl 0 101)) := fun wx p q tb h => kn_list C 0 ⟨by omega, by omega⟩ h [0, 2] 2 (.inr (.inr ⟨rfl, k_lists.2.2.2.2.2.1⟩))
  have c25s : Hid (∀ wx p q tb a c, RdN wx (.slice a 2 c) [0, 2] ∧ Kn R w wx p q tb kE.sl 0 101 → Calls Tryd.prog 8 #[.slice a 2 c, .slice (some ⟨wx.heap.size, 0, none⟩) 2 2] (wx.alloc (.cells #[nu 0, nu 2] 3)) fun e w' => e = .returned (.bool true) ∧ Hid (Kn R w w' p q tb kE.sl 0 101)) := fun wx p q tb a c h => kn_same C h.2 [0, 2] 2 rfl (by omega) #[nu 0, nu 2] rfl _ h.1
  have c26 : Hid (∀ wx p q tb, Kn R w wx p q tb kE.sl 0 101 → Calls Tryd.prog 9 #[ptr q, nu 2, nu 1] wx fun e w' => ∃ a c, e = .returned (.slice a 2 c) ∧ Hid (RdN w' (.slice a 2 c) [1, 3] ∧ Kn R w w' p q tb kE.sl 0 101)) := fun wx p q tb h => kn_list C 1 ⟨by omega, by omega⟩ h [1, 3] 2 (.inr (.inr ⟨rfl, k_lists.2.2.2.2.2.2.1⟩))
  have c26s : Hid (∀ wx p q tb a c, RdN wx (.slice a 2 c) [1, 3] ∧ Kn R w wx p q tb kE.sl 0 101 → Calls Tryd.prog 8 #[.slice a 2 c, .slice (some ⟨wx.heap.size, 0, none⟩) 2 2] (wx.alloc (.cells #[nu 1, nu 3] 3)) fun e w' => e = .returned (.bool true) ∧ Hid (Kn R w w' p q tb kE.sl 0 101)) := fun wx p q tb a c h => kn_same C h.2 [1, 3] 2 rfl (by omega) #[nu 1, nu 3] rfl _ h.1
  have c27 : Hid (∀ wx p q tb, Kn R w wx p q tb kE.sl 0 101 → Calls Tryd.prog 10 #[ptr q, nu 1] wx fun e w' => e = .returned (.iface 83 (.agg #[.int .i64 24, .int .i64 1])) ∧ (w'.cell? ⟨tb, 0, none⟩ = some (nu 0) ∧ w'.cell? ⟨tb, 1, none⟩ = some (nu 1)) ∧ Hid (Kn R w w' p q tb kE.sl 0 109)) := fun wx p q tb h => by
    have c := kn_cutE C 1 24 1 h (by omega) ⟨by omega, by omega⟩ k_errs.2.2.2.2.2.2.2 (by decide)
    refine c.mono ?_
    rintro e w' ⟨rfl, h'⟩
    exact ⟨rfl, h'.read, h'⟩
  have c28 : Hid (∀ wx p q tb, Kn R w wx p q tb kE.sl 0 109 → Calls Tryd.prog 11 #[.iface 83 (.agg #[.int .i64 24, .int .i64 1]), nu 24, nu 1] wx fun e w' => e = .returned (.bool true) ∧ Hid (Kn R w w' p q tb kE.sl 0 109)) := fun wx p q tb h => kn_told C hE h 24 1 (by decide) (by decide)
  have c29 : Hid (∀ wx p q tb, Kn R w wx p q tb kE.sl 0 109 → Calls Tryd.prog 10 #[ptr q, nu 0] wx fun e w' => e = .returned (.nilIface) ∧ (w'.cell? ⟨tb, 0, none⟩ = some (nu 0) ∧ w'.cell? ⟨tb, 1, none⟩ = some (nu 1)) ∧ Hid (Kn R w w' p q tb kF.sl (-1) 117)) := fun wx p q tb h => by
    have c := kn_cut C 0 h (by omega) ⟨by omega, by omega⟩
    have e0 : cutT kE.sl 0 0 = kF := by unfold kF; rw [k_last.2.1]
    rw [e0, k_ok.2.2.2.2.2.1, k_ok.2.2.2.2.2.2, k_last.2.2] at c
    refine c.mono ?_
    rintro e w' ⟨rfl, h'⟩
    exact ⟨rfl, h'.read, h'⟩
  have c30 : Hid (∀ wx p q tb, Kn R w wx p q tb kF.sl (-1) 117 → Calls Tryd.prog 7 #[ptr q] wx fun e w' => e = .returned (nu (-1)) ∧ Hid (Kn R w w' p q tb kF.sl (-1) 117)) := fun wx p q tb h => kn_last C h
  have c31 : Hid (∀ wx p q tb, Kn R w wx p q tb kF.sl (-1) 117 → Calls Tryd.prog 9 #[ptr q, nu 0, nu 0] wx fun e w' => ∃ a c, e = .returned (.slice a 0 c) ∧ Hid (RdN w' (.slice a 0 c) [] ∧ Kn R w w' p q tb kF.sl (-1) 117)) := fun wx p q tb h => kn_list C 0 ⟨by omega, by omega⟩ h [] 0 (.inl ⟨rfl, k_lists.2.2.2.2.2.2.2⟩)
  clear HH CN CP C hE
  go_enter Tryd.func3, Tryd.ntmps3
  go_wp2_with fail
  refine cU.out.mono ?_
  rintro e w1 ⟨p, q, rfl, h1⟩
  have HK := Hid.mk' (cN.out w1 p q h1)
  clear h1 cU cN
  go_wp2_with fail
  obtain ⟨tb, htb⟩ : ∃ tb, w1.heap.size = tb := ⟨_, rfl⟩
  rw [htb] at HK
  simp only [htb]
  clear htb
  generalize w1.alloc (.cells #[nu 0, nu 1] 27) = w2 at *
  refine (cW.out _ _ _ _ HK.out).mono ?_
  rintro e wv ⟨rfl, hr, hk⟩
  obtain ⟨y0, y1⟩ := hr
  clear HK cW
  have HK := hk
  clear hk
  go_wp2_with fail
  clear y0 y1
  refine (c0.out _ _ _ _ HK.out).mono ?_
  rintro e w3 ⟨rfl, hr, hk⟩
  obtain ⟨y0, y1⟩ := hr
  clear HK c0
  have HK := hk
  clear hk
  go_wp2_with fail
  clear y0 y1
  refine (c1.out _ _ _ _ HK.out).mono ?_
  rintro e w4 ⟨rfl, hr, hk⟩
  obtain ⟨y0, y1⟩ := hr
  clear HK c1
  have HK := hk
  clear hk
  go_wp2_with fail
  clear y0 y1
  refine (c2.out _ _ _ _ HK.out).mono ?_
  rintro e w5 ⟨rfl, hr, hk⟩
  obtain ⟨y0, y1⟩ := hr
  clear HK c2
  have HK := hk
  clear hk
  go_wp2_with fail
  clear y0 y1
  refine (c3.out _ _ _ _ HK.out).mono ?_
  rintro e w6 ⟨rfl, hr, hk⟩
  obtain ⟨y0, y1⟩ := hr
  clear HK c3
  have HK := hk
  clear hk
  go_wp2_with fail
  clear y0 y1
  refine (c4.out _ _ _ _ HK.out).mono ?_
  rintro e w7 ⟨rfl, hk⟩
  clear HK c4
  have HK := hk
  clear hk
  go_wp2_with fail
  refine (c5.out _ _ _ _ HK.out).mono ?_
  rintro e w8 ⟨a5, d5, rfl, hQ⟩
  clear HK c5
  go_wp2_with fail
  refine (c5s.out _ _ _ _ _ _ hQ.out).mono ?_
  rintro e w9 ⟨rfl, hk⟩
  clear hQ c5s
  have HK := hk
  clear hk
  go_wp2_with fail
  refine (c6.out _ _ _ _ HK.out).mono ?_
  rintro e w10 ⟨a6, d6, rfl, hQ⟩
  clear HK c6
  go_wp2_with fail
  refine (c6s.out _ _ _ _ _ _ hQ.out).mono ?_
  rintro e w11 ⟨rfl, hk⟩
  clear hQ c6s
  have HK := hk
  clear hk
  go_wp2_with fail
  refine (c7.out _ _ _ _ HK.out).mono ?_
  rintro e w12 ⟨a7, d7, rfl, hQ⟩
  have hk := hQ.out.2
  clear HK c7 hQ
  have HK := Hid.mk' hk
  clear hk
  go_wp2_with fail
  refine (c8.out _ _ _ _ HK.out).mono ?_
  rintro e w13 ⟨a8, d8, rfl, hQ⟩
  have hk := hQ.out.2
  clear HK c8 hQ
  have HK := Hid.mk' hk
  clear hk
  go_wp2_with fail
  refine (c9.out _ _ _ _ HK.out).mono ?_
  rintro e w14 ⟨rfl, hr, hk⟩
  obtain ⟨y0, y1⟩ := hr
  clear HK c9
  have HK := hk
  clear hk
  go_wp2_with fail
  clear y0 y1
  refine (c10.out _ _ _ _ HK.out).mono ?_
  rintro e w15 ⟨rfl, hr, hk⟩
  obtain ⟨y0, y1⟩ := hr
  clear HK c10
  have HK := hk
  clear hk
  go_wp2_with fail
  clear y0 y1
  refine (c11.out _ _ _ _ HK.out).mono ?_
  rintro e w16 ⟨rfl, hr, hk⟩
  obtain ⟨y0, y1⟩ := hr
  clear HK c11
  have HK := hk
  clear hk
  go_wp2_with fail
  clear y0 y1
  refine (c12.out _ _ _ _ HK.out).mono ?_
  rintro e w17 ⟨rfl, hr, hk⟩
  obtain ⟨y0, y1⟩ := hr
  clear HK c12
  have HK := hk
  clear hk
  go_wp2_with fail
  clear y0 y1
  refine (c13.out _ _ _ _ HK.out).mono ?_
  rintro e w18 ⟨rfl, hr, hk⟩
  obtain ⟨y0, y1⟩ := hr
  clear HK c13
  have HK := hk
  clear hk
  go_wp2_with fail
  clear y0 y1
  refine (c14.out _ _ _ _ HK.out).mono ?_
  rintro e w19 ⟨rfl, hr, hk⟩
  obtain ⟨y0, y1⟩ := hr
  clear HK c14
  have HK := hk
  clear hk
  go_wp2_with fail
  clear y0 y1
  refine (c15.out _ _ _ _ HK.out).mono ?_
  rintro e w20 ⟨rfl, hr, hk⟩
  obtain ⟨y0, y1⟩ := hr
  clear HK c15
  have HK := hk
  clear hk
  go_wp2_with fail
  clear y0 y1
  refine (c16.out _ _ _ _ HK.out).mono ?_
  rintro e w21 ⟨rfl, hk⟩
  clear HK c16
  have HK := hk
  clear hk
  go_wp2_with fail
  refine (c17.out _ _ _ _ HK.out).mono ?_
  rintro e w22 ⟨rfl, hk⟩
  clear HK c17
  have HK := hk
  clear hk
  go_wp2_with fail
  refine (c18.out _ _ _ _ HK.out).mono ?_
  rintro e w23 ⟨rfl, hk⟩
  clear HK c18
  have HK := hk
  clear hk
  go_wp2_with fail
  refine (c19.out _ _ _ _ HK.out).mono ?_
  rintro e w24 ⟨rfl, hk⟩
  clear HK c19
  have HK := hk
  clear hk
  go_wp2_with fail
  refine (c20.out _ _ _ _ HK.out).mono ?_
  rintro e w25 ⟨rfl, hk⟩
  clear HK c20
  have HK := hk
  clear hk
  go_wp2_with fail
  refine (c21.out _ _ _ _ HK.out).mono ?_
  rintro e w26 ⟨rfl, hk⟩
  clear HK c21
  have HK := hk
  clear hk
  go_wp2_with fail
  refine (c22.out _ _ _ _ HK.out).mono ?_
  rintro e w27 ⟨rfl, hk⟩
  clear HK c22
  have HK := hk
  clear hk
  go_wp2_with fail
  refine (c23.out _ _ _ _ HK.out).mono ?_
  rintro e w28 ⟨rfl, hr, hk⟩
  obtain ⟨y0, y1⟩ := hr
  clear HK c23
  have HK := hk
  clear hk
  go_wp2_with fail
  clear y0 y1
  refine (c24.out _ _ _ _ HK.out).mono ?_
  rintro e w29 ⟨a24, d24, rfl, hQ⟩
  clear HK c24
  go_wp2_with fail
  refine (c24s.out _ _ _ _ _ _ hQ.out).mono ?_
  rintro e w30 ⟨rfl, hk⟩
  clear hQ c24s
  have HK := hk
  clear hk
  go_wp2_with fail
  refine (c25.out _ _ _ _ HK.out).mono ?_
  rintro e w31 ⟨a25, d25, rfl, hQ⟩
  clear HK c25
  go_wp2_with fail
  refine (c25s.out _ _ _ _ _ _ hQ.out).mono ?_
  rintro e w32 ⟨rfl, hk⟩
  clear hQ c25s
  have HK := hk
  clear hk
  go_wp2_with fail
  refine (c26.out _ _ _ _ HK.out).mono ?_
  rintro e w33 ⟨a26, d26, rfl, hQ⟩
  clear HK c26
  go_wp2_with fail
  refine (c26s.out _ _ _ _ _ _ hQ.out).mono ?_
  rintro e w34 ⟨rfl, hk⟩
  clear hQ c26s
  have HK := hk
  clear hk
  go_wp2_with fail
  refine (c27.out _ _ _ _ HK.out).mono ?_
  rintro e w35 ⟨rfl, hr, hk⟩
  obtain ⟨y0, y1⟩ := hr
  clear HK c27
  have HK := hk
  clear hk
  go_wp2_with fail
  clear y0 y1
  refine (c28.out _ _ _ _ HK.out).mono ?_
  rintro e w36 ⟨rfl, hk⟩
  clear HK c28
  have HK := hk
  clear hk
  go_wp2_with fail
  refine (c29.out _ _ _ _ HK.out).mono ?_
  rintro e w37 ⟨rfl, hr, hk⟩
  obtain ⟨y0, y1⟩ := hr
  clear HK c29
  have HK := hk
  clear hk
  go_wp2_with fail
  clear y0 y1
  refine (c30.out _ _ _ _ HK.out).mono ?_
  rintro e w38 ⟨rfl, hk⟩
  clear HK c30
  have HK := hk
  clear hk
  go_wp2_with fail
  refine (c31.out _ _ _ _ HK.out).mono ?_
  rintro e w39 ⟨a31, d31, rfl, hQ⟩
  have hk := hQ.out.2
  clear HK c31 hQ
  have HK := Hid.mk' hk
  clear hk
  go_wp2
  go_ret
  exact ⟨rfl, HK.out.bel⟩
end Tr
end Go.Proofs.YtcleeidfiaafcaaDoor
