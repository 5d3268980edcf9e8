/- What a text of digits tells, piece by piece: plain lists. -/
import Derived.Test.YtgejdkiehcpinaaDoorWordI
namespace Go.Proofs.YtgejdkiehcpinaaDoor
open Go Go.RowKit

theorem extract_list (s : ByteArray) (a b : Nat) : (s.extract a b).data.toList = (s.data.toList.drop a).take (b - a) := by
  rw [ByteArray.data_extract, Array.toList_extract, List.extract_eq_take_drop]
theorem piece_list (s : ByteArray) (k : Nat) : (piece s k).data.toList = (s.data.toList.drop (7 * k)).take 7 := by
  unfold piece
  rw [extract_list]
  have hl : (s.data.toList.drop (7 * k)).length = s.size - 7 * k := by simp
  by_cases h : 7 * k + 7 ≤ s.size
  · rw [Nat.min_eq_left h, show 7 * k + 7 - 7 * k = 7 by omega]
  · rw [Nat.min_eq_right (by omega), List.take_of_length_le (by rw [hl]; omega), List.take_of_length_le (by rw [hl]; omega)]
theorem piece_take (s : ByteArray) (k : Nat) : s.data.toList.take (7 * (k + 1)) = s.data.toList.take (7 * k) ++ (piece s k).data.toList := by
  rw [piece_list, show 7 * (k + 1) = 7 * k + 7 by omega, List.take_add]
theorem piece_size (s : ByteArray) (k : Nat) : (piece s k).size ≤ 7 := by
  have h : (piece s k).data.toList.length ≤ 7 := by rw [piece_list]; exact List.length_take_le _ _
  simpa using h

/-- What number tells. -/
def numV (K : Kind) (l : List UInt8) : Value := match numFrom K 0 l with
  | some n => if n < 115792089237316195423570985008687907853269984665640564039457584007913129639936 then .tuple #[.agg #[.int .u64 (lim n 0), .int .u64 (lim n 1), .int .u64 (lim n 2), .int .u64 (lim n 3)], .bool true] else .tuple #[.agg #[.int .u64 0, .int .u64 0, .int .u64 0, .int .u64 0], .bool false]
  | none => .tuple #[.agg #[.int .u64 0, .int .u64 0, .int .u64 0, .int .u64 0], .bool false]
theorem numV_bad (K : Kind) (l : List UInt8) (t : Nat) (h : numFrom K 0 (l.take t) = none) : numV K l = .tuple #[.agg #[.int .u64 0, .int .u64 0, .int .u64 0, .int .u64 0], .bool false] := by
  have e : numFrom K 0 l = none := by
    rw [← List.take_append_drop t l, numFrom_append, h]; rfl
  unfold numV; rw [e]
theorem numV_great (K : Kind) (l : List UInt8) (t m : Nat) (h : numFrom K 0 (l.take t) = some m) (hm : ¬ m < 115792089237316195423570985008687907853269984665640564039457584007913129639936) : numV K l = .tuple #[.agg #[.int .u64 0, .int .u64 0, .int .u64 0, .int .u64 0], .bool false] := by
  have e : numFrom K 0 l = (numFrom K 0 (l.drop t)).map fun x => m * K.base ^ (l.drop t).length + x := by
    conv => lhs; rw [← List.take_append_drop t l]
    rw [numFrom_append, h]
    exact numFrom_zero K _ m
  unfold numV
  cases hd : numFrom K 0 (l.drop t) with
  | none => rw [e, hd]; rfl
  | some x =>
    rw [e, hd]
    simp only [Option.map_some]
    rw [if_neg]
    have h1 : 1 ≤ K.base ^ (l.drop t).length := Nat.one_le_pow _ _ (by have := K.pos; omega)
    have h2 : m * 1 ≤ m * K.base ^ (l.drop t).length := Nat.mul_le_mul_left _ h1
    omega
theorem numV_good (K : Kind) (l : List UInt8) (m : Nat) (h : numFrom K 0 l = some m) (hm : W256 m) : numV K l = .tuple #[.agg #[.int .u64 (lim m 0), .int .u64 (lim m 1), .int .u64 (lim m 2), .int .u64 (lim m 3)], .bool true] := by
  unfold numV; rw [h]; exact if_pos hm
theorem numFrom_piece (K : Kind) (s : ByteArray) (k m n : Nat) (h : numFrom K 0 (s.data.toList.take (7 * k)) = some m) (hn : numFrom K 0 (piece s k).data.toList = some n) :
    numFrom K 0 (s.data.toList.take (7 * (k + 1))) = some (m * K.base ^ (piece s k).data.toList.length + n) := by
  rw [piece_take, numFrom_append, h]
  show numFrom K m _ = _
  rw [numFrom_zero, hn]; rfl
theorem numFrom_piece_none (K : Kind) (s : ByteArray) (k m : Nat) (h : numFrom K 0 (s.data.toList.take (7 * k)) = some m) (hn : numFrom K 0 (piece s k).data.toList = none) :
    numFrom K 0 (s.data.toList.take (7 * (k + 1))) = none := by
  rw [piece_take, numFrom_append, h]
  show numFrom K m _ = _
  rw [numFrom_zero, hn]; rfl
theorem unit_lt (K : Kind) (s : ByteArray) (k : Nat) : K.base ^ (piece s k).data.toList.length < 18446744073709551616 := by
  have h1 : (piece s k).data.toList.length ≤ 7 := by have := piece_size s k; simpa using this
  have h2 : K.base ^ (piece s k).data.toList.length ≤ 256 ^ (piece s k).data.toList.length := Nat.pow_le_pow_left K.top _
  have h3 : 256 ^ (piece s k).data.toList.length ≤ 256 ^ 7 := Nat.pow_le_pow_right (by decide) h1
  have h4 : (256 : Nat) ^ 7 < 18446744073709551616 := by decide
  omega
theorem small_lt (K : Kind) (s : ByteArray) (k n : Nat) (hn : numFrom K 0 (piece s k).data.toList = some n) : n < 18446744073709551616 := by
  have h := numFrom_lt K _ _ _ hn
  have := unit_lt K s k
  omega
end Go.Proofs.YtgejdkiehcpinaaDoor
