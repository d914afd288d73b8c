/- The marks that lists are written over with. -/
import Derived.Test.YtjnodkjeiogloaaDoorSame
namespace Go.Proofs.YtjnodkjeiogloaaDoor
open Go.RowKit
namespace Nm

def bytesOf (ns : List Int) : ByteArray := ns.foldl (fun r n => r.push (UInt8.ofNat n.toNat)) ByteArray.empty

theorem run_conv5 (w : World) (a0 a1 a2 a3 a4 : Int) :
    Sem.run Tryd.prog (convert 23 9 (.slice (some ⟨w.heap.size, 0, none⟩) 5 5)) (w.alloc (.cells #[.int .u8 a0, .int .u8 a1, .int .u8 a2, .int .u8 a3, .int .u8 a4] 5)) =
      .ok (.string (bytesOf [a0, a1, a2, a3, a4])) (w.alloc (.cells #[.int .u8 a0, .int .u8 a1, .int .u8 a2, .int .u8 a3, .int .u8 a4] 5)) := by
  rw [run_convert_bytes_string _ 23 9 5 _ 5 5 Tryd.underlying23 Tryd.underlying5 Tryd.underlying9]
  refine run_bytesToString _ _ 5 5 [a0, a1, a2, a3, a4] ?_
  refine run_loadCells_list (w.alloc (.cells #[.int .u8 a0, .int .u8 a1, .int .u8 a2, .int .u8 a3, .int .u8 a4] 5)) ⟨w.heap.size, 0, none⟩ [.int .u8 a0, .int .u8 a1, .int .u8 a2, .int .u8 a3, .int .u8 a4] ?_
  intro j v h
  match j, h with
  | 0, h => simp at h; subst h; simp [Addr.add]
  | 1, h => simp at h; subst h; simp [Addr.add]
  | 2, h => simp at h; subst h; simp [Addr.add]
  | 3, h => simp at h; subst h; simp [Addr.add]
  | 4, h => simp at h; subst h; simp [Addr.add]
  | n + 5, h => simp at h

def markS (k i : Nat) : ByteArray := bytesOf [35, (k : Int) % 256, (k : Int) / 256 % 256, (i : Int) % 256, (i : Int) / 256 % 256]

def markT (k i : Nat) : Value := .string (markS k i)

set_option maxRecDepth 1000000 in
set_option maxHeartbeats 1000000 in
theorem marktext_any (k i : Nat) (_hk : k < 1000000) (_hi : i < 1000000) (w : World) :
    Calls Tryd.prog 45 #[.int .i64 k, .int .i64 i] w fun e w' => e = .returned (.string (markS k i)) ∧ Below w.heap.size w w' := by
  have hcv := run_conv5
  go_enter Tryd.func45, Tryd.ntmps45
  go_wp2
  go_ret
  exact ⟨rfl, (Below.refl _ _).alloc (Nat.le_refl _) _⟩

set_option maxHeartbeats 1000000 in
theorem marktexts_any (k i : Nat) (hk : k < 1000000) (hi : i < 1000000) (w : World) :
    Calls Tryd.prog 20 #[.int .i64 k, .int .i64 i] w fun e w' => e = .returned (.string (markS k i)) ∧ Below w.heap.size w w' := by
  have HK : Hid (k < 1000000) := hk
  have HI : Hid (i < 1000000) := hi
  clear hk hi
  go_enter Tryd.func20, Tryd.ntmps20
  go_wp2_with fail
  refine (marktext_any _ _ HK.out HI.out _).mono ?_
  rintro e w1 ⟨rfl, q1⟩
  go_wp2
  go_ret
  exact ⟨rfl, q1⟩

/-- The same at whatever spelling of the numbers. -/
theorem marktexts_at (k i : Int) (k' i' : Nat) (ek : k = k') (ei : i = i') (hk : k' < 1000000) (hi : i' < 1000000) (w : World) :
    Calls Tryd.prog 20 #[.int .i64 k, .int .i64 i] w fun e w' => e = .returned (.string (markS k' i')) ∧ Below w.heap.size w w' := by
  subst ek ei; exact marktexts_any k' i' hk hi w
end Nm
end Go.Proofs.YtjnodkjeiogloaaDoor
