/- What BitBytes answers, at all words and numbers. -/
import Derived.Test.YtnlcllhjhbaigaaDoorBBytesN
import Derived.Test.YtnlcllhjhbaigaaDoorBBytesP
import Derived.Test.YtnlcllhjhbaigaaDoorBBytM
import Derived.Test.YtnlcllhjhbaigaaDoorRefE
import Derived.Test.YtnlcllhjhbaigaaDoorBPartsRet
namespace Go.Proofs.YtnlcllhjhbaigaaDoor
open Go Go.RowKit

theorem strB_bytes (a : Nat) : strB (fun j => ((byteN a (31 - j) : Nat) : Int)) = bytesOf a := by
  show ByteArray.mk _ = ByteArray.mk (bytesOf a).data
  congr 1
theorem bitBytes_ret (a : Nat) (n m : Int) (ha : W256 a) (hn : I64 n) (hm : I64 m) : RetT Tryd.prog 5 #[wv a, .int .i64 n, .int .i64 m] (.bool true) := by
  have p1 := pick_ret n hn 40 (by omega) (by omega)
  have p2 := pick_ret m hm 256 (by omega) (by omega)
  have r1 := pickN_range n 40 (by omega)
  have r2 := pickN_range m 256 (by omega)
  obtain ⟨k, ek⟩ := Int.eq_ofNat_of_zero_le r1.1
  rw [ek] at p1 r1
  generalize pickN m 256 = v at p2 r2
  have hk : k < 40 := by omega
  have wk : W256 k := by unfold W256; omega
  have w7 : W256 127 := by unfold W256; omega
  have hs : -128 ≤ v - 128 ∧ v - 128 < 128 := by omega
  have wX := signN_lt k a ha
  have ho : ∀ j : Nat, j < 32 → Ret Tryd.prog 18 #[.int .i64 (j : Int)] (.agg #[.int .u64 (j : Int), .int .u64 0, .int .u64 0, .int .u64 0]) := fun j hj => (refOf_ret j (by unfold I64; omega)).of_eq rfl (by rw [ofN_nat]; exact wv_small j (by omega))
  have hb : ∀ j : Nat, j < 32 → Ret Tryd.prog 26 #[.agg #[.int .u64 (j : Int), .int .u64 0, .int .u64 0, .int .u64 0], wv a] (.agg #[.int .u64 ((byteN a (31 - j) : Nat) : Int), .int .u64 0, .int .u64 0, .int .u64 0]) := fun j hj => (byte_ret j a (by unfold W256; omega) ha).of_eq (by rw [wv_small j (by omega)]) (by
    have h := byteN_lt a (31 - j)
    rw [show byteV j a = byteN a (31 - j) from if_pos hj]
    exact wv_small _ (by omega))
  have rb : Ret Tryd.prog 33 #[wv a] (.string (strB fun j => ((byteN a (31 - j) : Nat) : Int))) := (refBytes_ret a).of_eq rfl (by rw [strB_bytes])
  have hbv : ∀ j, (0 : Int) ≤ ((byteN a (31 - j) : Nat) : Int) ∧ ((byteN a (31 - j) : Nat) : Int) < 256 := fun j => by
    have h := byteN_lt a (31 - j)
    omega
  have oq : Ret Tryd.prog 18 #[.int .i64 (k : Int)] (wv k) := (refOf_ret k (by unfold I64; omega)).of_eq rfl (by rw [ofN_nat])
  have sg := sign_ret k a wk ha
  have s2 : RetT Tryd.prog 28 #[wv k, wv (signN k a)] (wv (signN k a)) := (sign_ret k _ wk wX).of_eq rfl (by rw [sign_twice k a ha])
  have om := refOf_ret (v - 128) (by unfold I64; omega)
  have s3 : RetT Tryd.prog 28 #[wv k, wv (ofN (v - 128))] (wv (ofN (v - 128))) := (sign_ret k _ wk (ofN_w _ hs)).of_eq rfl (by rw [sign_small k _ hs])
  have o7 : Ret Tryd.prog 18 #[.int .i64 127] (.agg #[.int .u64 127, .int .u64 0, .int .u64 0, .int .u64 0]) := (refOf_ret 127 (by unfold I64; omega)).of_eq rfl (wv_small 127 (by omega))
  have n1 : Ret Tryd.prog 8 #[wv (signN k a), .agg #[.int .u64 127, .int .u64 0, .int .u64 0, .int .u64 0]] (wv (a &&& 127)) := (and_ret _ 127 wX w7).of_eq (by rw [wv_small 127 (by omega)]; rfl) (by rw [sign_127 k a ha])
  have n2 : Ret Tryd.prog 8 #[wv a, .agg #[.int .u64 127, .int .u64 0, .int .u64 0, .int .u64 0]] (wv (a &&& 127)) := (and_ret a 127 ha w7).of_eq (by rw [wv_small 127 (by omega)]; rfl) rfl
  by_cases h : k < 31
  · exact bytes_low (lim a) (lim k) (lim (signN k a)) (lim (ofN (v - 128))) (lim (a &&& 127)) (fun j => ((byteN a (31 - j) : Nat) : Int)) n m k v ⟨by omega, by omega⟩ (by omega) ⟨by omega, by omega⟩ hbv ho hb p1 p2 oq sg rb s2 om s3 o7 n1 n2
  · rw [sign_same k a (by omega)] at sg s2 n1
    exact bytes_high (lim a) (lim k) (lim a) (lim (ofN (v - 128))) (lim (a &&& 127)) (fun j => ((byteN a (31 - j) : Nat) : Int)) n m k v ⟨by omega, by omega⟩ (by omega) ⟨by omega, by omega⟩ hbv ho hb p1 p2 oq sg rb s2 om s3 o7 n1 n2
end Go.Proofs.YtnlcllhjhbaigaaDoor
