/- Hashes that are reckoned: the laws' first calls. -/
import Derived.Test.YtobdjakflknlcaaDoorKecL
namespace Go.Proofs.YtobdjakflknlcaaDoor
open Go Go.RowKit Go.Shelf

theorem padS_list (s : ByteArray) : (padS s).data.toList = s.data.toList ++ pcL (pmN s) := by
  unfold padS
  rw [ByteArray.data_append, Array.toList_append]
theorem byN_list (p : ByteArray) (i : Nat) : byN p i = (p.data.toList.getD i 0).toNat := by
  unfold byN
  rw [Array.getD_eq_getD_getElem?, List.getD_eq_getElem?_getD, Array.getElem?_toList]
theorem byN_pad (s : ByteArray) (i : Nat) : byN (padS s) i = ((s.data.toList ++ pcL (pmN s)).getD i 0).toNat := by rw [byN_list, padS_list]
theorem ofL_l25 (A : Nat → Nat) (j : Nat) (hj : j < 25) : (l25 A).getD j 0 = A j := by
  unfold l25
  rw [List.getD_eq_getElem?_getD, List.getElem?_map, List.getElem?_range hj]
  rfl
/-- The hash of a text that fills no block, reckoned. -/
theorem one_block (s : ByteArray) (j : Nat) (hj : j < 25) : blkN (padS s) 1 j = (permL (l25 (absN (fun _ => 0) (fun i => ((s.data.toList ++ pcL (pmN s)).getD i 0).toNat) 136))).getD j 0 := by
  rw [permL_eq, ofL_l25 _ j hj]
  show permN (absN (fun _ => 0) (fun i => byN (padS s) (136 * 0 + i)) 136) j = _
  have e : (fun i => byN (padS s) (136 * 0 + i)) = fun i => ((s.data.toList ++ pcL (pmN s)).getD i 0).toNat := funext fun i => by rw [Nat.mul_zero, Nat.zero_add, byN_pad]
  exact congrFun (congrArg (fun D => permN (absN (fun _ => 0) D 136)) e) j
def abc : ByteArray := ⟨#[97, 98, 99]⟩
def eks : ByteArray := ⟨#[120]⟩
def nul : ByteArray := ⟨#[]⟩
set_option maxRecDepth 100000 in
theorem nul_0 : blkN (padS nul) 1 0 = 0x3c23f7860146d2c5 := by
  rw [one_block nul 0 (by omega)]
  exact Nat.eq_of_beq_eq_true (by decide +kernel)
set_option maxRecDepth 100000 in
theorem abc_0 : blkN (padS abc) 1 0 = 0x4fa945ea7a65034e := by
  rw [one_block abc 0 (by omega)]
  exact Nat.eq_of_beq_eq_true (by decide +kernel)
theorem zero_0 : permN (fun _ => 0) 0 = 0xf1258f7940e1dde7 := by
  rw [← ofL_l25 (permN fun _ => 0) 0 (by omega), ← permL_eq]
  exact Nat.eq_of_beq_eq_true (by decide +kernel)

theorem sqS_size (A : Nat → Nat) : (sqS A).size = 32 := by
  show ((List.range 32).map fun j => UInt8.ofNat (sqB A j)).toArray.size = 32
  simp
theorem sqS_head (A : Nat → Nat) : (sqS A).extract 0 6 = ⟨#[UInt8.ofNat (A 0 % 256), UInt8.ofNat (A 0 / 2 ^ 8 % 256), UInt8.ofNat (A 0 / 2 ^ 16 % 256), UInt8.ofNat (A 0 / 2 ^ 24 % 256), UInt8.ofNat (A 0 / 2 ^ 32 % 256), UInt8.ofNat (A 0 / 2 ^ 40 % 256)]⟩ := by
  apply ByteArray.ext
  rw [ByteArray.data_extract]
  unfold sqS sqB
  simp [List.range_succ]
theorem sumS_size (s : ByteArray) : (sumS s).size = 32 := sqS_size _
theorem nul_head : (sumS nul).extract 0 6 = ⟨#[197, 210, 70, 1, 134, 247]⟩ := by
  unfold sumS
  rw [sqS_head, show nul.size / 136 + 1 = 1 from rfl, nul_0]
  decide
theorem abc_head : (sumS abc).extract 0 6 = ⟨#[78, 3, 101, 122, 234, 69]⟩ := by
  unfold sumS
  rw [sqS_head, show abc.size / 136 + 1 = 1 from rfl, abc_0]
  decide
theorem eks_size : (padS eks).size = 136 := padS_size eks
theorem eks_list : (padS eks).data.toList = 120 :: 1 :: (List.replicate 133 0 ++ [128]) := by
  rw [padS_list]
  decide +kernel
theorem eks_head : (padS eks).extract 0 2 = ⟨#[120, 1]⟩ := by
  apply ByteArray.ext
  rw [ByteArray.data_extract]
  apply Array.toList_inj.1
  rw [Array.toList_extract, eks_list]
  rfl
theorem eks_last : (padS eks).data[135]? = some 128 := by
  rw [← Array.getElem?_toList, eks_list]
  rfl
end Go.Proofs.YtobdjakflknlcaaDoor
