/- Hashes that are reckoned: the laws' first calls. Conditions: none. -/
import Derived.Test.YtnjmhcooejcehaaDoorShaI
namespace Go.Proofs.YtnjmhcooejcehaaDoor
open Go Go.RowKit Go.Shelf

def abc : ByteArray := ⟨#[97, 98, 99]⟩
def nul : ByteArray := ⟨#[]⟩
def hello : ByteArray := ⟨#[104, 101, 108, 108, 111]⟩
theorem l8_get (A : Nat → Nat) (j : Nat) (hj : j < 8) : (l8 A).getD j 0 = A j := by
  unfold l8
  rw [List.getD_eq_getElem?_getD, List.getElem?_map, List.getElem?_range hj]
  rfl
/-- The letters behind one block, reckoned. -/
theorem one_block (s : ByteArray) (j : Nat) (hj : j < 8) : blkN s 1 j = Nat.mod (Nat.add (hL.getD j 0) ((oneL (padN s)).getD j 0)) 4294967296 := by
  rw [oneL_eq, l8_get _ j hj]
  show withN hN (wdN fun i => padN s (64 * 0 + i)) j = _
  have e : (fun i => padN s (64 * 0 + i)) = padN s := funext fun i => by rw [Nat.mul_zero, Nat.zero_add]
  rw [e]
  rfl
set_option maxRecDepth 100000 in
theorem nul_0 : blkN nul 1 0 = 0xe3b0c442 := by
  rw [one_block nul 0 (by omega)]
  exact Nat.eq_of_beq_eq_true (by decide +kernel)
set_option maxRecDepth 100000 in
theorem nul_1 : blkN nul 1 1 = 0x98fc1c14 := by
  rw [one_block nul 1 (by omega)]
  exact Nat.eq_of_beq_eq_true (by decide +kernel)
set_option maxRecDepth 100000 in
theorem abc_0 : blkN abc 1 0 = 0xba7816bf := by
  rw [one_block abc 0 (by omega)]
  exact Nat.eq_of_beq_eq_true (by decide +kernel)
set_option maxRecDepth 100000 in
theorem abc_1 : blkN abc 1 1 = 0x8f01cfea := by
  rw [one_block abc 1 (by omega)]
  exact Nat.eq_of_beq_eq_true (by decide +kernel)
theorem texS_head (H : Nat → Nat) : (texS H).extract 0 6 = ⟨#[UInt8.ofNat (H 0 / 2 ^ 24 % 256), UInt8.ofNat (H 0 / 2 ^ 16 % 256), UInt8.ofNat (H 0 / 2 ^ 8 % 256), UInt8.ofNat (H 0 / 2 ^ 0 % 256), UInt8.ofNat (H 1 / 2 ^ 24 % 256), UInt8.ofNat (H 1 / 2 ^ 16 % 256)]⟩ := by
  apply ByteArray.ext
  rw [ByteArray.data_extract]
  unfold texS texN
  simp [List.range_succ]
theorem nul_head : (sumS nul).extract 0 6 = ⟨#[227, 176, 196, 66, 152, 252]⟩ := by
  unfold sumS
  rw [texS_head, show nbN nul.size = 1 from rfl, nul_0, nul_1]
  decide
theorem abc_head : (sumS abc).extract 0 6 = ⟨#[186, 120, 22, 191, 143, 1]⟩ := by
  unfold sumS
  rw [texS_head, show nbN abc.size = 1 from rfl, abc_0, abc_1]
  decide

/-! ### Costs at the places, for the laws -/
theorem small_lim (k : Nat) (hk : k < 18446744073709551616) : lim k 0 = k ∧ lim k 1 = 0 ∧ lim k 2 = 0 ∧ lim k 3 = 0 := by
  refine lim_num (fun j => if j = 0 then (k : Int) else 0) _ ?_ ?_ ?_ ?_ ?_
  · unfold U64; simp; omega
  · unfold U64; simp
  · unfold U64; simp
  · unfold U64; simp
  · unfold num; simp
theorem wv_small (k : Nat) (hk : k < 18446744073709551616) : wv k = W4 k 0 0 0 := by
  obtain ⟨h0, h1, h2, h3⟩ := small_lim k hk
  unfold wv
  rw [h0, h1, h2, h3]
theorem of_small (k : Nat) (hk : k ≤ 4611686018427387903) : Ret Tryd.prog 24 #[.int .i64 (k : Int)] (W4 k 0 0 0) :=
  (of_ret (k : Int) (by unfold I64; omega)).of_eq rfl (by rw [ofN_nat, wv_small k (by omega)])
theorem refOf_small (k : Nat) (hk : k ≤ 4611686018427387903) : Ret Tryd.prog 12 #[.int .i64 (k : Int)] (W4 k 0 0 0) :=
  (refOf_ret (k : Int) (by unfold I64; omega)).of_eq rfl (by rw [ofN_nat, wv_small k (by omega)])
theorem eq_small (a k : Nat) (ha : W256 a) (hk : k < 18446744073709551616) : (lim a 0 == (k : Int) && lim a 1 == 0 && lim a 2 == 0 && lim a 3 == 0) = decide (a = k) := by
  obtain ⟨h0, h1, h2, h3⟩ := small_lim k hk
  have h := eqv_of a k ha (by unfold W256; omega)
  rw [h0, h1, h2, h3] at h
  exact h
def pcs (m : Nat) : Nat := (m + 31) / 32
theorem rounded_32 (m : Nat) (hm : m ≤ 1048576) : Ret Tryd.prog 23 #[.int .i64 (m : Int), .int .i64 32] (.int .i64 (pcs m : Int)) := (roundedUp_ret m 32 (by omega) (by omega)).of_eq rfl (by unfold pcs; rfl)
theorem pcs_le (m : Nat) (hm : m ≤ 1048576) : pcs m ≤ 100000 := by unfold pcs; omega
theorem cost_two (m : Nat) (hm : m ≤ 1048576) : Ret Tryd.prog 13 #[W4 2 0 0 0, .int .i64 (m : Int)] (.tuple #[.int .i64 (60 + 12 * (pcs m : Int)), .bool true]) :=
  cost_in 2 0 0 0 m (pcs m) hm true false _ _ (rounded_32 m hm) (pcs_le m hm) (of_small 2 (by omega)) (of_small 4 (by omega)) (by decide) (by decide) (by rw [if_pos rfl])
theorem cost_four (m : Nat) (hm : m ≤ 1048576) : Ret Tryd.prog 13 #[W4 4 0 0 0, .int .i64 (m : Int)] (.tuple #[.int .i64 (15 + 3 * (pcs m : Int)), .bool true]) :=
  cost_in 4 0 0 0 m (pcs m) hm false true _ _ (rounded_32 m hm) (pcs_le m hm) (of_small 2 (by omega)) (of_small 4 (by omega)) (by decide) (by decide) (by rw [if_neg (by decide), if_pos rfl])
theorem cost_else (a m : Nat) (ha : W256 a) (h2 : a ≠ 2) (h4 : a ≠ 4) (hm : m ≤ 1048576) : Ret Tryd.prog 13 #[W4 (lim a 0) (lim a 1) (lim a 2) (lim a 3), .int .i64 (m : Int)] (.tuple #[.int .i64 0, .bool false]) :=
  cost_in _ _ _ _ m (pcs m) hm false false _ _ (rounded_32 m hm) (pcs_le m hm) (of_small 2 (by omega)) (of_small 4 (by omega)) ((eq_small a 2 ha (by omega)).trans (decide_eq_false h2)) ((eq_small a 4 ha (by omega)).trans (decide_eq_false h4)) (by rw [if_neg (by decide), if_neg (by decide)])
theorem run_two (s : ByteArray) (hs : s.size ≤ 1048576) (g : Int) (hg : 60 + 12 * (pcs s.size : Int) ≤ g) (hI : I64 g) : RetT Tryd.prog 15 #[W4 2 0 0 0, .string s, .int .i64 g] (.tuple #[.string (sumS s), .int .i64 (g - (60 + 12 * (pcs s.size : Int))), .bool true]) :=
  run_yes 2 0 0 0 g _ true s (sumS s) hg (by omega) hI (cost_two s.size hs) (of_small 2 (by omega)) (by decide) (sum_ret s hs)
theorem run_four (s : ByteArray) (hs : s.size ≤ 1048576) (g : Int) (hg : 15 + 3 * (pcs s.size : Int) ≤ g) (hI : I64 g) : RetT Tryd.prog 15 #[W4 4 0 0 0, .string s, .int .i64 g] (.tuple #[.string s, .int .i64 (g - (15 + 3 * (pcs s.size : Int))), .bool true]) :=
  run_yes 4 0 0 0 g _ false s (sumS s) hg (by omega) hI (cost_four s.size hs) (of_small 2 (by omega)) (by decide) (sum_ret s hs)
theorem run_two_no (s : ByteArray) (hs : s.size ≤ 1048576) (g : Int) (hg : g < 60 + 12 * (pcs s.size : Int)) : Ret Tryd.prog 15 #[W4 2 0 0 0, .string s, .int .i64 g] (.tuple #[.string ⟨#[]⟩, .int .i64 0, .bool false]) :=
  run_no 2 0 0 0 g _ true s (.inr hg) (cost_two s.size hs)
theorem run_four_no (s : ByteArray) (hs : s.size ≤ 1048576) (g : Int) (hg : g < 15 + 3 * (pcs s.size : Int)) : Ret Tryd.prog 15 #[W4 4 0 0 0, .string s, .int .i64 g] (.tuple #[.string ⟨#[]⟩, .int .i64 0, .bool false]) :=
  run_no 4 0 0 0 g _ true s (.inr hg) (cost_four s.size hs)
theorem run_else (a : Nat) (ha : W256 a) (h2 : a ≠ 2) (h4 : a ≠ 4) (s : ByteArray) (hs : s.size ≤ 1048576) (g : Int) : Ret Tryd.prog 15 #[W4 (lim a 0) (lim a 1) (lim a 2) (lim a 3), .string s, .int .i64 g] (.tuple #[.string ⟨#[]⟩, .int .i64 0, .bool false]) :=
  run_no _ _ _ _ g _ false s (.inl rfl) (cost_else a s.size ha h2 h4 hs)
end Go.Proofs.YtnjmhcooejcehaaDoor
