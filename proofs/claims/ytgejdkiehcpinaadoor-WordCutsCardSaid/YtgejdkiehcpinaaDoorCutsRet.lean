/- What WordCuts answers, at all words and texts. -/
import Derived.Test.YtgejdkiehcpinaaDoorCuts
import Derived.Test.YtgejdkiehcpinaaDoorDoublesRet
namespace Go.Proofs.YtgejdkiehcpinaaDoor
open Go Go.RowKit

theorem ofN_nat' (n : Nat) : ofN (n : Int) = n := by unfold ofN; rw [if_neg (by omega)]; omega
theorem cuts_ret (a : Nat) (s : ByteArray) (ha : W256 a) (hs : s.size ≤ 140737488355328) : Ret Tryd.prog 9 #[wv a, .string s] (.bool true) := by
  obtain ⟨x, hx⟩ : ∃ x, x = s.extract 0 (min s.size 60) := ⟨_, rfl⟩
  have hxs : x.size ≤ 60 := by rw [hx, ByteArray.size_extract]; omega
  have hxl : x.data.toList.length = x.size := by simp
  have hts := bytesOf_size a
  have hfull : x.data.toList.take x.size = x.data.toList := List.take_of_length_le (by omega)
  refine cuts_walk (lim a) (lim 256) (lim (cutV a x.data.toList)) (lim (fromB x.data.toList)) (fun k => lim (cutV a (x.data.toList.take k))) (fun k => lim (wmod (cutV a (x.data.toList.take k) * 256))) (fun k => lim (x.data.toList.getD k 0).toNat) s x (bytesOf a) hx (by omega) hs (by omega) ?_ ?_ ?_ ?_ ?_ ?_ ?_ ?_ ?_ ?_
  · show lim (cutV a (x.data.toList.take 0)) = lim a
    rw [List.take_zero, cutV_nil a ha]
  · show lim (cutV a (x.data.toList.take x.size)) = _
    rw [hfull]
  · have h := of_ret ((256 : Nat) : Int) (by unfold I64; omega)
    rw [ofN_nat'] at h
    exact h
  · intro k _
    exact mul_ret (cutV a (x.data.toList.take k)) 256 (wmod_lt _) (by unfold W256; omega)
  · intro k hk
    have hb := x[k].toNat_lt
    have h := of_ret ((x[k].toNat : Nat) : Int) (by unfold I64; omega)
    rw [ofN_nat'] at h
    have e : (x.data.toList.getD k 0) = x[k] := by
      rw [List.getD_eq_getElem?_getD, List.getElem?_eq_getElem (by omega)]; rfl
    show Ret _ _ _ (wv (x.data.toList.getD k 0).toNat)
    rw [e]
    exact h
  · intro k hk
    have e : (x.data.toList.getD k 0) = x[k] := by
      rw [List.getD_eq_getElem?_getD, List.getElem?_eq_getElem (by omega)]; rfl
    have hb := x[k].toNat_lt
    have h := add_ret (wmod (cutV a (x.data.toList.take k) * 256)) x[k].toNat (wmod_lt _) (by unfold W256; omega)
    rw [← cutV_snoc, ← take_snoc x k hk] at h
    show Ret _ _ #[wv (wmod (cutV a (x.data.toList.take k) * 256)), wv (x.data.toList.getD k 0).toNat] (wv (cutV a (x.data.toList.take (k + 1))))
    rw [e]
    exact h
  · exact bytes_ret a ha
  · have h := fromBytes_ret (bytesOf a ++ x) (by rw [ByteArray.size_append]; omega)
    have e : (bytesOf a ++ x).data.toList = (bytesOf a).data.toList ++ x.data.toList := by rw [ByteArray.data_append]; simp
    rw [e, cutV_all a ha] at h
    exact h
  · exact fromBytes_ret x (by omega)
  · have h := fromBytes_ret ((⟨#[0]⟩ : ByteArray) ++ x) (by rw [ByteArray.size_append]; have : (⟨#[0]⟩ : ByteArray).size = 1 := rfl; omega)
    have e : ((⟨#[0]⟩ : ByteArray) ++ x).data.toList = 0 :: x.data.toList := by rw [ByteArray.data_append]; simp
    rw [e, fromB_nought] at h
    exact h
end Go.Proofs.YtgejdkiehcpinaaDoor
