/- A text of 2^20 bytes is hashed, one of more is not: the walk. -/
import Derived.Test.YtcjdcalfndicbaaDoorKLongM
namespace Go.Proofs.YtcjdcalfndicbaaDoor
open Go Go.RowKit Go.Shelf
attribute [local go_sem] Oper.semAt_some Grows wide_fn field0

set_option maxRecDepth 100000 in
set_option maxHeartbeats 4000000 in
theorem long_walk (n : Int) (k : Nat) (s s1 s2 a b : ByteArray) (hk : k < 300) (hs : s.size = 1048577 + k) (h1 : s.extract 0 k = s1) (h2 : s.extract 0 (k + 1) = s2) (ha : a.size = 32) (hb : b.size = 32) (hne : (a.toList == b.toList) = false)
    (hstr : ∀ W : World, (convert 27 9 (.slice (some ⟨W.heap.size, 0, none⟩) (1048577 + k) (1048577 + k))).run Tryd.prog (W.alloc (.cells (ubC (1048577 + k) fun _ => 0) 5)) = .ok (.string s) (W.alloc (.cells (ubC (1048577 + k) fun _ => 0) 5)))
    (hp : Ret Tryd.prog 13 #[.int .i64 n, .int .i64 300] (.int .i64 (k : Int))) (g0 : Ret Tryd.prog 14 #[.string s] (.tuple #[.string ⟨#[]⟩, .int .i64 2])) (g1 : RetT Tryd.prog 14 #[.string s1] (.tuple #[.string a, .int .i64 0])) (g2 : RetT Tryd.prog 14 #[.string s2] (.tuple #[.string b, .int .i64 0])) :
    RetT Tryd.prog 7 #[.int .i64 n] (.bool true) := by
  intro w HT
  have H0 := Lib.hid awake_ret
  have HP := Lib.hid hp
  have G0 := Lib.hid g0
  have G1 := Lib.hid g1
  have G2 := Lib.hid g2
  have HSTR := Lib.hid hstr
  clear hp g0 g1 g2 hstr
  have hkI : (k : Int) < 300 := by omega
  have hsI : (s.size : Int) = 1048577 + (k : Int) := by omega
  have haI : (a.size : Int) = 32 := by omega
  have hbI : (b.size : Int) = 32 := by omega
  go_enter Tryd.func7, Tryd.ntmps7
  go_wp2_with fail
  refine (H0.out _ HT).mono ?_
  rintro e w1 ⟨rfl, Q⟩
  have HT := HT.later Q
  go_wp2_with fail
  refine (HP.out _).mono ?_
  rintro e w2 ⟨rfl, q⟩
  have HT := HT.later q
  have Q := Q.trans (q.mono Q.size)
  clear q
  have hm1 := run_mkB w2 (1048577 + k) (by omega)
  rw [show ((1048577 + k : Nat) : Int) = 1048577 + (k : Int) by omega] at hm1
  have hc1 := HSTR.out w2
  have Q := Q.alloc Q.size (.cells (ubC (1048577 + k) fun _ => 0) 5)
  have HT := HT.alloc (.cells (ubC (1048577 + k) fun _ => 0) 5)
  obtain ⟨W1, hW1⟩ : ∃ W1, w2.alloc (.cells (ubC (1048577 + k) fun _ => 0) 5) = W1 := ⟨_, rfl⟩
  rw [hW1] at hm1 hc1 Q HT
  clear hW1 HSTR
  generalize 1048577 + k = big at *
  go_wp2_with fail
  clear hm1 hc1
  refine (G0.out _).mono ?_
  rintro e w3 ⟨rfl, q⟩
  have HT := HT.later q
  have Q := Q.trans (q.mono Q.size)
  clear q
  go_wp2_with fail
  refine (G1.out _ HT).mono ?_
  rintro e w4 ⟨rfl, q⟩
  have HT := HT.later q
  have Q := Q.trans (q.mono Q.size)
  clear q
  go_wp2_with fail
  refine (G2.out _ HT).mono ?_
  rintro e w5 ⟨rfl, q⟩
  have Q := Q.trans (q.mono Q.size)
  clear q
  have HQ := Lib.hid Q
  clear Q
  go_wp2
  go_ret
  exact ⟨rfl, HQ.out⟩

theorem zS_cut (N k : Nat) (h : k ≤ N) : (zS N).extract 0 k = zS k := by
  apply ByteArray.ext
  apply Array.toList_inj.1
  rw [ByteArray.data_extract, Array.toList_extract, zS_list, zS_list]
  simp [List.extract]
  omega
theorem kLong_ret (n : Int) (hn : I64 n) : RetT Tryd.prog 7 #[.int .i64 n] (.bool true) := by
  have h1 := pick_ret n hn 300 (by omega) (by omega)
  have r1 := pickN_range n 300 (by omega)
  obtain ⟨k, ek⟩ := Int.eq_ofNat_of_zero_le r1.1
  rw [ek] at h1 r1
  exact long_walk n k (zS (1048577 + k)) (zS k) (zS (k + 1)) (sumS (zS k)) (sumS (zS (k + 1))) (by omega) (zS_size _) (zS_cut _ _ (by omega)) (zS_cut _ _ (by omega)) (sumS_size _) (sumS_size _) (beq_of_ne (sum_ne k (by omega))) (fun W => run_str W _ (by omega)) h1
    (sum_long _ (by rw [zS_size]; omega)) (sum_ret _ (by rw [zS_size]; omega)) (sum_ret _ (by rw [zS_size]; omega))
end Go.Proofs.YtcjdcalfndicbaaDoor
