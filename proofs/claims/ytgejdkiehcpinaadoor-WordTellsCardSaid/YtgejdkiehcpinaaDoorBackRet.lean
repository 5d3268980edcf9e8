/- What WordBack answers, at all words and numbers. -/
import Derived.Test.YtgejdkiehcpinaaDoorBack
namespace Go.Proofs.YtgejdkiehcpinaaDoor
open Go Go.RowKit

theorem hexStr_length (a : Nat) : (hexStr a).length ≤ 66 := by
  unfold hexStr
  have h1 := noNoughts_length (hexText a)
  have h2 : (hexText a).length = 64 := by unfold hexText; simp [hexL_length, byteL_length]
  split
  · simp
  · simp only [List.length_append, List.length_cons, List.length_nil]; omega
theorem wsub_lt (a b : Nat) : W256 (wsub a b) := by unfold wsub; exact wmod_lt _
theorem pickN_range (c m : Int) (hm : 0 < m) : 0 ≤ pickN c m ∧ pickN c m < m := by
  unfold pickN
  exact ⟨Int.emod_nonneg _ (by omega), Int.emod_lt_of_pos _ hm⟩

theorem back_ret (a b : Nat) (n : Int) (ha : W256 a) (hb : W256 b) (hn : I64 n) : Ret Tryd.prog 4 #[wv a, wv b, .int .i64 n] (.bool true) := by
  have hk := pickN_range n 4611686018427387903 (by omega)
  have hK : I64 (pickN n 4611686018427387903) := by unfold I64; omega
  have ws := wmod_lt (a + b)
  have wd := wsub_lt a b
  have hsz := bytesOf_size a
  refine back_walk (lim a) (lim b) (lim (wmod (a + b))) (lim (wsub a b)) (lim (ofN (pickN n 4611686018427387903))) ⟨(hexStr a).toArray⟩ (bytesOf a) n (pickN n 4611686018427387903) (by omega) ?_ ?_ ?_ ?_ ?_ ?_ ?_ ?_ ?_ ?_ ?_ ?_ ?_
  · exact hex_ret a ha
  · have hl := hexStr_length a
    have h := parse_ret ⟨(hexStr a).toArray⟩ (show (hexStr a).toArray.size ≤ 140737488355328 by rw [List.size_toArray]; omega)
    rw [show (⟨(hexStr a).toArray⟩ : ByteArray).data.toList = hexStr a from rfl, parse_hexStr a ha] at h
    exact h
  · exact pick_ret n hn 4611686018427387903 (by omega) (by omega)
  · exact of_ret _ hK
  · have h := int_ret (ofN (pickN n 4611686018427387903)) (ofN_lt _ hK)
    have e : intV (ofN (pickN n 4611686018427387903)) = .tuple #[.int .i64 (pickN n 4611686018427387903), .bool true] := by
      have e1 : ((ofN (pickN n 4611686018427387903) : Nat) : Int) = pickN n 4611686018427387903 := by
        unfold ofN; rw [if_neg (by omega)]; omega
      unfold intV
      rw [if_pos (by unfold maxI; omega), e1]
    rw [e] at h
    exact h
  · exact bytes_ret a ha
  · have h := fromBytes_ret (bytesOf a) (by omega)
    rw [fromB_bytes a ha] at h
    exact h
  · exact add_ret a b ha hb
  · have h := sub_ret _ b ws hb
    rw [wsub_wmod a b ha hb] at h
    exact h
  · exact sub_ret a b ha hb
  · have h := add_ret _ b wd hb
    rw [wadd_wsub a b ha hb] at h
    exact h
  · have h := fromBytes_ret ((⟨#[97, 98, 99]⟩ : ByteArray) ++ bytesOf a) (by rw [ByteArray.size_append, hsz]; decide)
    have e : ((⟨#[97, 98, 99]⟩ : ByteArray) ++ bytesOf a).data.toList = [97, 98, 99] ++ (bytesOf a).data.toList := by rw [ByteArray.data_append]; simp
    rw [e, fromB_behind _ a ha] at h
    exact h
  · have h := sub_ret a a ha ha
    rw [wsub_self a ha, show wv 0 = W4 0 0 0 0 from wv_of ⟨by decide, by decide, by decide, by decide⟩] at h
    exact h
end Go.Proofs.YtgejdkiehcpinaaDoor
