/- The bytes that a sum takes of lanes. For all lanes. -/
import Derived.Test.YtobdjakflknlcaaDoorKecJ
namespace Go.Proofs.YtobdjakflknlcaaDoor
open Go Go.RowKit Go.Shelf
attribute [local go_sem] Oper.semAt_some Grows wide_fn field0

def sqB (A : Nat → Nat) (j : Nat) : Nat := A (j / 8) / 2 ^ (8 * (j % 8)) % 256
theorem sqB_lt (A : Nat → Nat) (j : Nat) : sqB A j < 256 := Nat.mod_lt _ (by omega)
def sqK (A : Nat → Nat) (k j : Nat) : Nat := if j < k then sqB A j else 0
def sqS (A : Nat → Nat) : ByteArray := ⟨((List.range 32).map fun j => UInt8.ofNat (sqB A j)).toArray⟩

set_option maxRecDepth 100000 in
set_option maxHeartbeats 4000000 in
theorem squeezed_calls (B : Nat) (A : Nat → Nat) (w : World) (hB : Has w B 24 (luC 25 A)) :
    Calls Tryd.prog 23 #[.pointer (some ⟨B, 0, none⟩)] w fun e w' => e = .returned (.string (sqS A)) ∧ Below w.heap.size w w' := by
  have hBl := hB.lt
  have HP : Hid (sqS A = ⟨((List.range 32).map fun j => UInt8.ofNat (sqB A j)).toArray⟩) := Lib.hid rfl
  have LB := hB.alloc (.cells #[.int .u8 0, .int .u8 0, .int .u8 0, .int .u8 0, .int .u8 0, .int .u8 0, .int .u8 0, .int .u8 0, .int .u8 0, .int .u8 0, .int .u8 0, .int .u8 0, .int .u8 0, .int .u8 0, .int .u8 0, .int .u8 0, .int .u8 0, .int .u8 0, .int .u8 0, .int .u8 0, .int .u8 0, .int .u8 0, .int .u8 0, .int .u8 0, .int .u8 0, .int .u8 0, .int .u8 0, .int .u8 0, .int .u8 0, .int .u8 0, .int .u8 0, .int .u8 0] 60)
  have LO := Has.new w 60 #[.int .u8 0, .int .u8 0, .int .u8 0, .int .u8 0, .int .u8 0, .int .u8 0, .int .u8 0, .int .u8 0, .int .u8 0, .int .u8 0, .int .u8 0, .int .u8 0, .int .u8 0, .int .u8 0, .int .u8 0, .int .u8 0, .int .u8 0, .int .u8 0, .int .u8 0, .int .u8 0, .int .u8 0, .int .u8 0, .int .u8 0, .int .u8 0, .int .u8 0, .int .u8 0, .int .u8 0, .int .u8 0, .int .u8 0, .int .u8 0, .int .u8 0, .int .u8 0]
  have Q := (Below.refl w.heap.size w).alloc (Nat.le_refl _) (.cells #[.int .u8 0, .int .u8 0, .int .u8 0, .int .u8 0, .int .u8 0, .int .u8 0, .int .u8 0, .int .u8 0, .int .u8 0, .int .u8 0, .int .u8 0, .int .u8 0, .int .u8 0, .int .u8 0, .int .u8 0, .int .u8 0, .int .u8 0, .int .u8 0, .int .u8 0, .int .u8 0, .int .u8 0, .int .u8 0, .int .u8 0, .int .u8 0, .int .u8 0, .int .u8 0, .int .u8 0, .int .u8 0, .int .u8 0, .int .u8 0, .int .u8 0, .int .u8 0] 60)
  go_enter Tryd.func23, Tryd.ntmps23
  go_wp2
  obtain ⟨W0, hW0⟩ : ∃ W0, w.alloc (.cells #[.int .u8 0, .int .u8 0, .int .u8 0, .int .u8 0, .int .u8 0, .int .u8 0, .int .u8 0, .int .u8 0, .int .u8 0, .int .u8 0, .int .u8 0, .int .u8 0, .int .u8 0, .int .u8 0, .int .u8 0, .int .u8 0, .int .u8 0, .int .u8 0, .int .u8 0, .int .u8 0, .int .u8 0, .int .u8 0, .int .u8 0, .int .u8 0, .int .u8 0, .int .u8 0, .int .u8 0, .int .u8 0, .int .u8 0, .int .u8 0, .int .u8 0, .int .u8 0] 60) = W0 := ⟨_, rfl⟩
  rw [hW0] at LB LO Q ⊢
  clear hW0
  rw [show (#[.int .u8 0, .int .u8 0, .int .u8 0, .int .u8 0, .int .u8 0, .int .u8 0, .int .u8 0, .int .u8 0, .int .u8 0, .int .u8 0, .int .u8 0, .int .u8 0, .int .u8 0, .int .u8 0, .int .u8 0, .int .u8 0, .int .u8 0, .int .u8 0, .int .u8 0, .int .u8 0, .int .u8 0, .int .u8 0, .int .u8 0, .int .u8 0, .int .u8 0, .int .u8 0, .int .u8 0, .int .u8 0, .int .u8 0, .int .u8 0, .int .u8 0, .int .u8 0] : Array Value) = ubC 32 (sqK A 0) from rfl] at LO
  go_loopw [5] (fun i wr => ∃ k : Nat, k ≤ 32 ∧ i = .int .i64 (k : Int) ∧ Has wr B 24 (luC 25 A) ∧ Has wr w.heap.size 60 (ubC 32 (sqK A k)) ∧ Below w.heap.size w wr) (fun i _ => 32 - (intOf i).toNat)
  case atStart => exact ⟨0, by omega, rfl, LB, LO, Q⟩
  case round =>
    clear LB LO Q
    obtain ⟨k, hk, rfl, LB, LO, Q⟩ := hrel
    by_cases hlt : k < 32
    · have hkI : (k : Int) < 32 := by omega
      have e1 : (k : Int).tdiv 8 = ((k / 8 : Nat) : Int) := by rw [Int.tdiv_eq_ediv_of_nonneg (by omega)]; omega
      have e2 : (k : Int).tmod 8 = ((k % 8 : Nat) : Int) := by rw [Int.tmod_eq_emod_of_nonneg (by omega)]; omega
      have e3 : ((k % 8 : Nat) : Int) * 8 = ((8 * (k % 8) : Nat) : Int) := by omega
      have hw : IntKind.u8.wrap (((A (k / 8) : Nat) : Int) / 2 ^ (8 * (k % 8))) = ((sqB A k : Nat) : Int) := by
        rw [show (((A (k / 8) : Nat) : Int) / 2 ^ (8 * (k % 8))) = ((A (k / 8) / 2 ^ (8 * (k % 8)) : Nat) : Int) by rw [Int.natCast_ediv, Int.natCast_pow]; rfl]
        unfold sqB
        simp only [IntKind.wrap, IntKind.bits, IntKind.signed]
        generalize A (k / 8) / 2 ^ (8 * (k % 8)) = q
        simp
      have hS' : ∀ i, i < 32 → sqK A (k + 1) i = if i = k then sqB A k else sqK A k i := fun i _ => by
        unfold sqK
        by_cases e : i = k
        · rw [if_pos e, if_pos (by omega), e]
        · rw [if_neg e]
          by_cases e2 : i < k
          · rw [if_pos e2, if_pos (by omega)]
          · rw [if_neg e2, if_neg (by omega)]
      have h8 : k / 8 < 25 := by omega
      have hs64 : 8 * (k % 8) < 64 := by omega
      have kA := LB.cell _ _ (luC_get 25 A (k / 8) h8)
      have kO := LO.cell _ _ (ubC_get 32 _ k hlt)
      have kz := LO.frozen k
      have N1 := LO.set k (.int .u8 ((sqB A k : Nat) : Int))
      rw [ubC_set 32 _ (sqK A (k + 1)) k (sqB A k) hS'] at N1
      have H1 := Lib.hid N1
      have H2 := Lib.hid (Q.setCell (p := ⟨w.heap.size, k, none⟩) (Nat.le_refl _) (.int .u8 ((sqB A k : Nat) : Int)))
      have H3 := Lib.hid (LB.other (p := ⟨w.heap.size, k, none⟩) (show B ≠ w.heap.size by omega) (.int .u8 ((sqB A k : Nat) : Int)))
      have HLT := Lib.hid hlt
      clear hlt hk LB LO Q hS' N1
      generalize sqB A k = r at *
      generalize A (k / 8) = c at *
      generalize 8 * (k % 8) = s at *
      generalize k % 8 = k8 at *
      generalize k / 8 = i8 at *
      have hsI : (s : Int) < 64 := by omega
      have h8I : (i8 : Int) < 25 := by omega
      clear h8 hs64
      go_wp2
      go_roundw
      case rel => exact ⟨k + 1, by have := HLT.out; omega, by simp, H3.out, H1.out, H2.out⟩
      case measure => simp [intOf]; omega
    · obtain rfl : k = 32 := by omega
      have hL : Has wr w.heap.size 60 (ubC 32 (sqB A)) := by rw [ubC_congr 32 (sqB A) (sqK A 32) (fun j hj => by unfold sqK; rw [if_pos hj])]; exact LO
      have hcv := conv_backT (cap := 32) (sqB_lt A) hL
      have HQ := Lib.hid Q
      clear LB LO Q hk hlt hL
      generalize (List.range 32).map (fun j => UInt8.ofNat (sqB A j)) = pl at *
      go_wp2
      go_ret
      rw [HP.out]
      exact ⟨rfl, HQ.out⟩
end Go.Proofs.YtobdjakflknlcaaDoor
