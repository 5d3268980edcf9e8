/- What WordTells answers, at all words, numbers and texts that are not beyond the model's reach. -/
import Derived.Test.YtgejdkiehcpinaaDoorTells
import Derived.Test.YtgejdkiehcpinaaDoorBackRet
namespace Go.Proofs.YtgejdkiehcpinaaDoor
open Go Go.RowKit

theorem intV_tuple (a : Nat) : intV a = .tuple #[.int .i64 (if a ≤ maxI then (a : Int) else 0), .bool (decide (a ≤ maxI))] := by
  unfold intV
  by_cases h : a ≤ maxI
  · rw [if_pos h, if_pos h, decide_eq_true h]
  · rw [if_neg h, if_neg h, decide_eq_false h]
/-- The number and the error of a text. -/
def pN (l : List UInt8) : Nat := if badDigits (restOf l) then 0 else match numFrom (if isHex l then hexK else decK) 0 (restOf l) with
  | some n => if n < 115792089237316195423570985008687907853269984665640564039457584007913129639936 then n else 0
  | none => 0
def pE (l : List UInt8) : Int := if badDigits (restOf l) then 3 else match numFrom (if isHex l then hexK else decK) 0 (restOf l) with
  | some n => if n < 115792089237316195423570985008687907853269984665640564039457584007913129639936 then 0 else 3
  | none => 3
theorem errV_eq : errV = .tuple #[wv 0, .int .i64 3] := by
  rw [show wv 0 = .agg #[.int .u64 0, .int .u64 0, .int .u64 0, .int .u64 0] from wv_of ⟨by decide, by decide, by decide, by decide⟩]
  rfl
theorem parseV_tuple (l : List UInt8) : parseV l = .tuple #[wv (pN l), .int .i64 (pE l)] := by
  unfold parseV pN pE
  by_cases h : badDigits (restOf l)
  · rw [if_pos h, if_pos h, if_pos h, errV_eq]
  · rw [if_neg h, if_neg h, if_neg h]
    cases numFrom (if isHex l then hexK else decK) 0 (restOf l) with
    | none => exact errV_eq
    | some n =>
      simp only [wordIf]
      by_cases h2 : n < 115792089237316195423570985008687907853269984665640564039457584007913129639936
      · rw [if_pos h2, if_pos h2, if_pos h2]; rfl
      · rw [if_neg h2, if_neg h2, if_neg h2, errV_eq]
/-- One of three words. -/
def w3 (a b c : Nat) : Nat → Nat
  | 0 => a
  | 1 => b
  | _ => c
theorem w3_lt (a b c : Nat) (ha : W256 a) (hb : W256 b) (hc : W256 c) : ∀ j, W256 (w3 a b c j)
  | 0 => ha
  | 1 => hb
  | _ + 2 => hc
/-- One of four texts. -/
def s4 (a b c d : ByteArray) : Nat → ByteArray
  | 0 => a
  | 1 => b
  | 2 => c
  | _ => d
theorem tells_ret (a b : Nat) (n : Int) (s : ByteArray) (m : Int) (more : ByteArray) (ha : W256 a) (hb : W256 b) (hn : I64 n) (hs : s.size ≤ 140737488351232) (hm : I64 m) (hmore : more.size ≤ 140737488351232) :
    Ret Tryd.prog 3 #[wv a, wv b, .int .i64 n, .string s, .int .i64 m, .string more] (.bool true) := by
  have hc := ofN_lt n hn
  have hX := w3_lt a b (ofN n) ha hb hc
  have hts : (⟨(hexStr a).toArray⟩ : ByteArray).size ≤ 66 := by
    show (hexStr a).toArray.size ≤ 66
    rw [List.size_toArray]
    exact hexStr_length a
  have hp := pickN_range m (((⟨(hexStr a).toArray⟩ : ByteArray).size : Int) + 1) (by omega)
  obtain ⟨K, hK⟩ := Int.eq_ofNat_of_zero_le hp.1
  have hKle : K ≤ (⟨(hexStr a).toArray⟩ : ByteArray).size := by have := hp.2; rw [hK] at this; omega
  obtain ⟨t, ht⟩ : ∃ t : ByteArray, t = ⟨(hexStr a).toArray⟩ := ⟨_, rfl⟩
  rw [← ht] at hts hp hK hKle
  obtain ⟨Y, hY⟩ : ∃ Y, Y = s4 s t ((t.extract 0 K ++ more) ++ t.extract K t.size) ((t.extract 0 K ++ more) ++ t.extract (min (K + more.size) t.size) t.size) := ⟨_, rfl⟩
  have hYs : ∀ j, j < 4 → (Y j).size ≤ 140737488355328 := by
    intro j hj
    rw [hY]
    rcases (show j = 0 ∨ j = 1 ∨ j = 2 ∨ j = 3 by omega) with rfl | rfl | rfl | rfl
    · show s.size ≤ _; omega
    · show t.size ≤ _; omega
    · show ((t.extract 0 K ++ more) ++ t.extract K t.size).size ≤ _
      rw [ByteArray.size_append, ByteArray.size_append, ByteArray.size_extract, ByteArray.size_extract]; omega
    · show ((t.extract 0 K ++ more) ++ t.extract (min (K + more.size) t.size) t.size).size ≤ _
      rw [ByteArray.size_append, ByteArray.size_append, ByteArray.size_extract, ByteArray.size_extract]; omega
  refine tells_walk (fun j => lim (w3 a b (ofN n) j)) (fun j => lim (pN (Y j).data.toList)) (fun j => lim (fromB (Y j).data.toList)) (lim (wmod (a + b))) (lim (wsub a b)) (lim (wmod (a * b))) n m
    (fun j => if w3 a b (ofN n) j ≤ maxI then (w3 a b (ofN n) j : Int) else 0) (fun j => wcmp (w3 a b (ofN n) j) b) (fun j => wcmp a (w3 a b (ofN n) j)) (fun j => pE (Y j).data.toList) (fun j => decide (w3 a b (ofN n) j ≤ maxI))
    (fun j => bytesOf (w3 a b (ofN n) j)) (fun j => ⟨(hexStr (w3 a b (ofN n) j)).toArray⟩) Y s more t K (min (K + more.size) t.size) ht hts hKle rfl (by omega) (by rw [hY]; rfl) (by rw [hY]; rfl) (by rw [hY]; rfl) (by rw [hY]; rfl)
    (of_ret n hn) (refOf_ret n hn) (add_ret a b ha hb) (refAdd_ret a b ha hb) (sub_ret a b ha hb) (refSub_ret a b ha hb) (mul_ret a b ha hb) (refMul_ret a b ha hb)
    ?_ ?_ (fun j _ => bytes_ret _ (hX j)) (fun j _ => refBytes_ret _) (fun j _ => hex_ret _ (hX j)) (fun j _ => refHex_ret _) (fun j _ => cmp_ret _ b (hX j) hb) (fun j _ => refCmp_ret _ b (hX j) hb) (fun j _ => cmp_ret a _ ha (hX j)) (fun j _ => refCmp_ret a _ ha (hX j))
    ?_ ?_ ?_ (fun j hj => fromBytes_ret (Y j) (hYs j hj)) (fun j hj => refFromBytes_ret (Y j) (hYs j hj))
  · intro j _
    have h := int_ret _ (hX j)
    rw [intV_tuple] at h
    exact h
  · intro j _
    have h := refInt_ret _ (hX j)
    rw [intV_tuple] at h
    exact h
  · have h := pick_ret m hm ((t.size : Int) + 1) (by omega) (by omega)
    rw [hK] at h
    exact h
  · intro j hj
    have h := parse_ret (Y j) (hYs j hj)
    rw [parseV_tuple] at h
    exact h
  · intro j hj
    have h := refParse_ret (Y j) (hYs j hj)
    rw [parseV_tuple] at h
    exact h
end Go.Proofs.YtgejdkiehcpinaaDoor
