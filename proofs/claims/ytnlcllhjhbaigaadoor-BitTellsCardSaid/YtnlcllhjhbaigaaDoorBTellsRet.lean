/- What BitTells answers, at all words and numbers. -/
import Derived.Test.YtnlcllhjhbaigaaDoorBTells
import Derived.Test.YtnlcllhjhbaigaaDoorRefW
import Derived.Test.YtnlcllhjhbaigaaDoorBBytM
import Derived.Test.YtnlcllhjhbaigaaDoorBPartsRet
namespace Go.Proofs.YtnlcllhjhbaigaaDoor
open Go Go.RowKit

theorem low_bits (n : Nat) : n % 2 = (n.testBit 0).toNat := by
  rw [Nat.testBit_zero]
  rcases Nat.mod_two_eq_zero_or_one n with h | h <;> rw [h] <;> rfl
theorem half_and (a b : Nat) : (a &&& b) / 2 = a / 2 &&& b / 2 ∧ (a ||| b) / 2 = a / 2 ||| b / 2 ∧ (a ^^^ b) / 2 = a / 2 ^^^ b / 2 := by
  refine ⟨Nat.eq_of_testBit_eq fun i => ?_, Nat.eq_of_testBit_eq fun i => ?_, Nat.eq_of_testBit_eq fun i => ?_⟩ <;>
    simp only [← Nat.testBit_succ, Nat.testBit_and, Nat.testBit_or, Nat.testBit_xor]
theorem xor_and_add (a : Nat) : ∀ b, (a ^^^ b) + 2 * (a &&& b) = a + b := by
  induction a using Nat.strongRecOn with
  | _ a ih =>
    intro b
    by_cases h : a = 0
    · subst h; simp
    · have hi := ih (a / 2) (by omega) (b / 2)
      obtain ⟨h1, _, h2⟩ := half_and a b
      rw [← h1, ← h2] at hi
      have l1 := low_bits (a &&& b)
      have l2 := low_bits (a ^^^ b)
      have l3 := low_bits a
      have l4 := low_bits b
      rw [Nat.testBit_and] at l1
      rw [Nat.testBit_xor] at l2
      generalize a.testBit 0 = x at *
      generalize b.testBit 0 = y at *
      cases x <;> cases y <;> simp only [Bool.true_and, Bool.false_and, Bool.true_or, Bool.false_or, Bool.true_xor, Bool.false_xor, Bool.not_true, Bool.not_false, Bool.toNat_true, Bool.toNat_false] at l1 l2 l3 l4 <;> omega
theorem top_bit (a : Nat) (ha : W256 a) : a.testBit 255 = decide (S1 ≤ a) := by
  rw [Nat.testBit_eq_decide_div_mod_eq]
  refine decide_eq_decide.2 ?_
  rw [show (2 : Nat) ^ 255 = S1 by decide]
  unfold W256 at ha
  unfold S1
  omega
theorem and_pow (a n : Nat) : a &&& 2 ^ n = (a.testBit n).toNat * 2 ^ n := by
  refine Nat.eq_of_testBit_eq fun i => ?_
  rw [Nat.testBit_and, Nat.testBit_two_pow]
  cases h : a.testBit n with
  | false =>
    simp only [Bool.toNat_false, Nat.zero_mul, Nat.zero_testBit]
    by_cases e : n = i
    · subst e; rw [h]; rfl
    · rw [decide_eq_false e, Bool.and_false]
  | true =>
    simp only [Bool.toNat_true, Nat.one_mul]
    rw [Nat.testBit_two_pow]
    by_cases e : n = i
    · subst e; rw [h]; simp
    · rw [decide_eq_false e, Bool.and_false]
theorem xor_S1 (a : Nat) (ha : W256 a) : a ^^^ S1 = if S1 ≤ a then a - S1 else a + S1 := by
  have h := xor_and_add a S1
  have e : a &&& S1 = (a.testBit 255).toNat * S1 := by
    rw [show S1 = 2 ^ 255 by decide]
    exact and_pow a 255
  rw [e, top_bit a ha] at h
  split
  · rename_i hs
    rw [decide_eq_true hs] at h
    simp only [Bool.toNat_true] at h
    omega
  · rename_i hs
    rw [decide_eq_false hs] at h
    simp only [Bool.toNat_false] at h
    omega
theorem bt_one (a : Nat) (ha : W256 a) : bt a 255 = if S1 ≤ a then 1 else 0 := by
  rw [bt_test, top_bit a ha]
  by_cases h : S1 ≤ a
  · rw [decide_eq_true h, if_pos h]; rfl
  · rw [decide_eq_false h, if_neg h]; rfl
theorem wcmp_neg (x y : Nat) : decide (wcmp x y < 0) = decide (x < y) := by
  unfold wcmp
  by_cases h : x < y
  · rw [if_pos h, decide_eq_true h]; rfl
  · rw [if_neg h, decide_eq_false h]; split <;> rfl
theorem refLess3_ret (a b : Nat) (ha : W256 a) (hb : W256 b) : Ret Tryd.prog 17 #[wv a, wv b] (.bool (lessN a b)) := by
  unfold lessN
  rw [wcmp_neg, xor_S1 a ha, xor_S1 b hb]
  have e1 := bt_one a ha
  have e2 := bt_one b hb
  unfold W256 at ha hb
  by_cases h : bt a 255 = bt b 255
  · have hr := less3_same a b (wcmp a b) (refCmp_ret a b ha hb) h
    rw [wcmp_neg] at hr
    rw [e1, e2] at h
    have e : decide (a < b) = decide ((if S1 ≤ a then a - S1 else a + S1) < (if S1 ≤ b then b - S1 else b + S1)) := by
      refine decide_eq_decide.2 ?_
      unfold S1 at *
      by_cases h1 : 57896044618658097711785492504343953926634992332820282019728792003956564819968 ≤ a <;> by_cases h2 : 57896044618658097711785492504343953926634992332820282019728792003956564819968 ≤ b <;> simp only [h1, h2, if_true, if_false] at h ⊢ <;> omega
    rw [← e]
    exact hr
  · have hr := less3_other a b h
    rw [e1, e2] at hr h
    have e : decide ((if S1 ≤ b then 1 else 0) < (if S1 ≤ a then 1 else 0)) = decide ((if S1 ≤ a then a - S1 else a + S1) < (if S1 ≤ b then b - S1 else b + S1)) := by
      refine decide_eq_decide.2 ?_
      unfold S1 at *
      by_cases h1 : 57896044618658097711785492504343953926634992332820282019728792003956564819968 ≤ a <;> by_cases h2 : 57896044618658097711785492504343953926634992332820282019728792003956564819968 ≤ b <;> simp only [h1, h2, if_true, if_false] at h ⊢ <;> first | omega | exact absurd trivial h
    rw [← e]
    exact hr
theorem bt_zero_of {a j : Nat} (h : a.testBit j = false) : (bt a j : Int) = 0 := by rw [bt_test, h]; rfl
theorem bt_eq_of {a b i j : Nat} (h : a.testBit i = b.testBit j) : bt a i = bt b j := by rw [bt_test, bt_test, h]
theorem refShl_ret (p a : Nat) (hp : W256 p) (ha : W256 a) : Ret Tryd.prog 21 #[wv p, wv a] (wv (wmod (a * 2 ^ p))) := by
  have hs := refSmall_ret p 256 hp (by omega)
  obtain ⟨c, hc⟩ : ∃ c : Nat, (if p ≤ 256 then p else 256) = c := ⟨_, rfl⟩
  rw [hc] at hs
  have hc1 : c ≤ 256 := by split at hc <;> omega
  have hm := refMoved_ret a (wmod (a * 2 ^ p)) (c : Int) 0 (Nat.mod_lt _ (by decide)) ⟨by omega, by omega⟩ (fun k j hk hj e => bt_eq_of (by
    rw [shl_bit a p k hk]
    have h1 : p ≤ k := by split at hc <;> omega
    rw [decide_eq_true h1, Bool.true_and]
    congr 1
    split at hc <;> omega)) (fun k hk e => bt_zero_of (by
    rw [shl_bit a p k hk]
    rw [decide_eq_false (show ¬ p ≤ k by split at hc <;> omega), Bool.false_and]))
  exact refShl_walk p a (wmod (a * 2 ^ p)) c hs hm ⟨by omega, by omega⟩
theorem refShr_ret (p a : Nat) (hp : W256 p) (ha : W256 a) : Ret Tryd.prog 23 #[wv p, wv a] (wv (a / 2 ^ p)) := by
  have hs := refSmall_ret p 256 hp (by omega)
  obtain ⟨c, hc⟩ : ∃ c : Nat, (if p ≤ 256 then p else 256) = c := ⟨_, rfl⟩
  rw [hc] at hs
  have hc1 : c ≤ 256 := by split at hc <;> omega
  have hm := refMoved_ret a (a / 2 ^ p) (-(c : Int)) 0 (div_lt a _ ha) ⟨by omega, by omega⟩ (fun k j hk hj e => bt_eq_of (by
    rw [Nat.testBit_div_two_pow]
    congr 1
    split at hc <;> omega)) (fun k hk e => bt_zero_of (by
    rw [Nat.testBit_div_two_pow]
    exact bit_far a _ ha (by split at hc <;> omega)))
  exact refShr_walk p a (a / 2 ^ p) c hs hm ⟨by omega, by omega⟩
theorem refSar_ret (p a : Nat) (hp : W256 p) (ha : W256 a) : Ret Tryd.prog 25 #[wv p, wv a] (wv (sarN p a)) := by
  have hs := refSmall_ret p 256 hp (by omega)
  obtain ⟨c, hc⟩ : ∃ c : Nat, (if p ≤ 256 then p else 256) = c := ⟨_, rfl⟩
  rw [hc] at hs
  have hc1 : c ≤ 256 := by split at hc <;> omega
  have hm := refMoved_ret a (sarN p a) (-(c : Int)) (bt a 255 : Int) (sarN_lt p a ha) ⟨by omega, by omega⟩ (fun k j hk hj e => bt_eq_of (by
    rw [sar_bit p a k ha hk]
    have h1 : k + p = j := by split at hc <;> omega
    rw [if_pos (by omega), h1])) (fun k hk e => by
    refine congrArg _ (bt_eq_of ?_)
    rw [sar_bit p a k ha hk]
    rw [if_neg (by split at hc <;> omega)])
  exact refSar_walk p a (sarN p a) c hs hm ⟨by omega, by omega⟩
theorem byte_idx (a p : Nat) (hp : p < 32) (W : World) : (Instr.index 9 (.string (bytesOf a)) (.int .i64 (p : Int))).run Tryd.prog W = .ok (.int .u8 ((byteN a (31 - p) : Nat) : Int)) W := by
  have u := Tryd.underlying9
  have hb := byteN_lt a (31 - p)
  have hs : (bytesOf a)[p]? = some (UInt8.ofNat (byteN a (31 - p))) := by
    have hz : p < (bytesOf a).size := by rw [bytesOf_size]; exact hp
    rw [getElem?_pos _ p hz]
    congr 1
    show (bytesOf a).data[p]'hz = _
    have h2 : (bytesOf a).data.toList[p]? = some (UInt8.ofNat (byteN a (31 - p))) := by
      rw [bytesOf_list]
      unfold byteL
      simp [hp]
    rw [Array.getElem?_toList] at h2
    have hz2 : p < (bytesOf a).data.size := hz
    rw [Array.getElem?_eq_getElem (xs := (bytesOf a).data) hz2] at h2
    exact Option.some.inj h2
  have hn : (UInt8.ofNat (byteN a (31 - p))).toNat = byteN a (31 - p) := by rw [UInt8.toNat_ofNat', Nat.mod_eq_of_lt (show byteN a (31 - p) < 2 ^ 8 by omega)]
  unfold Instr.index
  simp [go_sem, run_underlying u, hs, hn]
theorem refByte_ret (p a : Nat) (hp : W256 p) (ha : W256 a) : Ret Tryd.prog 27 #[wv p, wv a] (wv (byteV p a)) := by
  have hs := refSmall_ret p 32 hp (by omega)
  by_cases h : p < 32
  · rw [if_pos (by omega)] at hs
    have hb := byteN_lt a (31 - p)
    rw [show byteV p a = byteN a (31 - p) from if_pos h]
    have h3 := refOf_ret ((byteN a (31 - p) : Nat) : Int) (by unfold I64; omega)
    rw [ofN_nat] at h3
    exact refByte_in p a (byteN a (31 - p)) (bytesOf a) p ((byteN a (31 - p) : Nat) : Int) hs (refBytes_ret a) (byte_idx a p h) ⟨by omega, by omega⟩ ⟨by omega, by omega⟩ h3
  · rw [show (if p ≤ 32 then p else 32) = 32 by split <;> omega] at hs
    rw [show byteV p a = 0 from if_neg h]
    exact (refByte_far p a hs).of_eq rfl wv_0.symm
theorem refSign_ret (p a : Nat) (hp : W256 p) (ha : W256 a) : Ret Tryd.prog 29 #[wv p, wv a] (wv (signN p a)) := by
  have hs := refSmall_ret p 31 hp (by omega)
  by_cases h : p < 31
  · rw [if_pos (by omega)] at hs
    refine refSign_in p a (signN p a) p hs h (signN_lt p a ha) (fun j hj => ?_)
    unfold sgx
    by_cases h2 : 8 * p + 8 ≤ j ∧ j < 256
    · rw [if_pos h2]
      refine congrArg _ (bt_eq_of ?_)
      rw [sign_bit p a j ha hj, Nat.min_eq_right (by omega)]
    · rw [if_neg h2]
      refine congrArg _ (bt_eq_of ?_)
      rw [sign_bit p a j ha hj, Nat.min_eq_left (by omega)]
  · rw [show (if p ≤ 31 then p else 31) = 31 by split <;> omega] at hs
    rw [sign_same p a (by omega)]
    exact refSign_far p a hs
theorem bitTells_ret (a b d : Nat) (n : Int) (ha : W256 a) (hb : W256 b) (hd : W256 d) (hn : I64 n) : RetT Tryd.prog 3 #[wv a, wv b, wv d, .int .i64 n] (.bool true) := by
  have p1 := pick_ret n hn 260 (by omega) (by omega)
  have p2 := pick_ret n hn 34 (by omega) (by omega)
  have r1 := pickN_range n 260 (by omega)
  have r2 := pickN_range n 34 (by omega)
  obtain ⟨u, eu⟩ := Int.eq_ofNat_of_zero_le r1.1
  obtain ⟨v, ev⟩ := Int.eq_ofNat_of_zero_le r2.1
  rw [eu] at p1 r1
  rw [ev] at p2 r2
  have wu : W256 u := by unfold W256; omega
  have wv' : W256 v := by unfold W256; omega
  have ou : Ret Tryd.prog 18 #[.int .i64 (u : Int)] (wv u) := (refOf_ret u (by unfold I64; omega)).of_eq rfl (by rw [ofN_nat])
  have ov : Ret Tryd.prog 18 #[.int .i64 (v : Int)] (wv v) := (refOf_ret v (by unfold I64; omega)).of_eq rfl (by rw [ofN_nat])
  exact btells_walk (lim a) (lim b) (lim d) (lim u) (lim v) (lim (a &&& b)) (lim (a ||| b)) (lim (a ^^^ b)) (lim (a ^^^ M1))
    (lim (wmod (a * 2 ^ d))) (lim (a / 2 ^ d)) (lim (sarN d a)) (lim (byteV d a)) (lim (signN d a))
    (lim (wmod (a * 2 ^ u))) (lim (a / 2 ^ u)) (lim (sarN u a)) (lim (byteV u a)) (lim (signN u a))
    (lim (wmod (a * 2 ^ v))) (lim (a / 2 ^ v)) (lim (sarN v a)) (lim (byteV v a)) (lim (signN v a))
    n u v (lessN a b) (lessN b a) p1 ou p2 ov
    (and_ret a b ha hb) (refAnd_ret a b ha hb) (or_ret a b ha hb) (refOr_ret a b ha hb) (xor_ret a b ha hb) (refXor_ret a b ha hb) (not_ret a ha) (refNot_ret a ha) (less_ret a b ha hb) (refLess3_ret a b ha hb) (less_ret b a hb ha) (refLess3_ret b a hb ha)
    (shl_ret d a hd ha) (refShl_ret d a hd ha) (shr_ret d a hd ha) (refShr_ret d a hd ha) (sar_ret d a hd ha) (refSar_ret d a hd ha) (byte_ret d a hd ha) (refByte_ret d a hd ha) (sign_ret d a hd ha) (refSign_ret d a hd ha)
    (shl_ret u a wu ha) (refShl_ret u a wu ha) (shr_ret u a wu ha) (refShr_ret u a wu ha) (sar_ret u a wu ha) (refSar_ret u a wu ha) (byte_ret u a wu ha) (refByte_ret u a wu ha) (sign_ret u a wu ha) (refSign_ret u a wu ha)
    (shl_ret v a wv' ha) (refShl_ret v a wv' ha) (shr_ret v a wv' ha) (refShr_ret v a wv' ha) (sar_ret v a wv' ha) (refSar_ret v a wv' ha) (byte_ret v a wv' ha) (refByte_ret v a wv' ha) (sign_ret v a wv' ha) (refSign_ret v a wv' ha)
end Go.Proofs.YtnlcllhjhbaigaaDoor
