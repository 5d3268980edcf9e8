/- Part. -/
import Derived.Laws.MakeOwn
import Derived.Test.YtpolmfmlklmmcaaH07
set_option maxRecDepth 100000
set_option maxHeartbeats 16000000
namespace Go.Proofs.Ytpolmfmlklmmcaa
section
open Go Go.RowKit Go.Shelf
attribute [local go_sem] Oper.semAt_some Grows wide_fn eq4
theorem refCost12_ret (n : Int) : Ret Try.prog 10 #[.int .i64 n] (.int .i64 (costN n)) := by
 refine Ret.of_same fun w => ?_
 unfold costN
 have ev : max 0 (min n 32768) = limV n 32768 := by unfold limV; split <;> (try split) <;> omega
 obtain ⟨g0, g1⟩ := limV_range n 32768 (by decide)
 generalize limV n 32768 = v at *
 have m0 : 0 ≤ v * v := Int.mul_nonneg g0 g0
 have m1 : v * v ≤ 32768 * 32768 := Int.mul_le_mul g1 g1 g0 (by decide)
 have e : (v * v).tdiv 512 = v * v / 512 := Int.tdiv_eq_ediv_of_nonneg m0
 obtain ⟨vv, hvv⟩ : ∃ vv, v * v = vv := ⟨_, rfl⟩
 rw [hvv] at e m0 m1 ⊢
 have e1 : wrap64 (v * v) = vv := by rw [hvv]; unfold wrap64; omega
 have d0 : 0 ≤ vv / 512 := by omega
 have d1 : vv / 512 ≤ 2097152 := by omega
 clear hvv
 generalize vv / 512 = q at *
 go_enter Try.func10, Try.ntmps10
 go_wp2
 go_ret
 exact ⟨rfl, rfl⟩
theorem refMay12_ret (m : ByteArray) (hm : m.size ≤ 140737488355328) : Ret Try.prog 39 #[.string m] (.bool (mayB m)) := by
 refine Ret.of_same fun w => ?_
 have e : (m.size : Int).tmod 32 = ((m.size % 32 : Nat) : Int) := by
  rw [Int.tmod_eq_emod_of_nonneg (by omega)]; omega
 have b1 : (0 : Int) ≤ ((m.size % 32 : Nat) : Int) := by omega
 have b2 : ((m.size % 32 : Nat) : Int) ≤ 31 := by omega
 by_cases h1 : m.size ≤ 1048576
 ·have hI : (m.size : Int) ≤ 1048576 := by omega
  by_cases h2 : m.size % 32 = 0
  ·have ev : mayB m = true := by unfold mayB; rw [decide_eq_true h1, decide_eq_true h2]; rfl
   rw [ev]
   have h3 : ((m.size % 32 : Nat) : Int) = 0 := by omega
   rw [h3] at e
   clear ev h2 h3 b1 b2 h1
   go_enter Try.func39, Try.ntmps39
   go_wp2
   go_ret
   exact ⟨rfl, rfl⟩
  ·have ev : mayB m = false := by unfold mayB; rw [decide_eq_true h1, decide_eq_false h2]; rfl
   rw [ev]
   have h3 : ((m.size % 32 : Nat) : Int) ≠ 0 := by omega
   have h4 : (((m.size % 32 : Nat) : Int) == 0) = false := by simpa using h3
   generalize ((m.size % 32 : Nat) : Int) = r at *
   clear ev h2 h1
   go_enter Try.func39, Try.ntmps39
   go_wp2
   go_ret
   exact ⟨rfl, rfl⟩
 ·have ev : mayB m = false := by unfold mayB; rw [decide_eq_false h1]; rfl
  rw [ev]
  have hI : ¬ (m.size : Int) ≤ 1048576 := by omega
  clear ev h1 b1 b2 e
  go_enter Try.func39, Try.ntmps39
  go_wp2
  go_ret
  exact ⟨rfl, rfl⟩
theorem refThere_ret (m : ByteArray) (hm : m.size ≤ 70368744177664) (k n : Int) (hk : I64 k) : Ret Try.prog 42 #[.string m, .int .i64 k, .int .i64 n] (.bool (thereB m k n)) := by
 intro w
 have HM := hid (refMay12_ret m (by omega))
 unfold thereB
 unfold I64 at hk
 cases hb : mayB m with
 | false =>
  rw [hb] at HM
  rw [Bool.false_and]
  go_enter Try.func42, Try.ntmps42
  go_wp2_with fail
  refine (HM.out _).mono ?_
  rintro e w1 ⟨rfl, q1⟩
  go_wp2
  go_ret
  exact ⟨rfl, q1⟩
 | true =>
  rw [hb] at HM
  rw [Bool.true_and]
  by_cases h1 : 0 ≤ k
  ·by_cases h2 : 0 ≤ n
   ·by_cases h3 : k ≤ (m.size : Int)
    ·by_cases h4 : n ≤ (m.size : Int) - k
     ·rw [decide_eq_true (by omega)]
      clear hb hk
      go_enter Try.func42, Try.ntmps42
      go_wp2_with fail
      refine (HM.out _).mono ?_
      rintro e w1 ⟨rfl, q1⟩
      go_wp2
      go_ret
      exact ⟨rfl, q1⟩
     ·rw [decide_eq_false (by omega)]
      have e4 : decide (n ≤ (m.size : Int) - k) = false := decide_eq_false h4
      clear hb hk
      go_enter Try.func42, Try.ntmps42
      go_wp2_with fail
      refine (HM.out _).mono ?_
      rintro e w1 ⟨rfl, q1⟩
      go_wp2
      go_ret
      exact ⟨rfl, q1⟩
    ·rw [decide_eq_false (by omega)]
     clear hb hk
     go_enter Try.func42, Try.ntmps42
     go_wp2_with fail
     refine (HM.out _).mono ?_
     rintro e w1 ⟨rfl, q1⟩
     go_wp2
     go_ret
     exact ⟨rfl, q1⟩
   ·rw [decide_eq_false (by omega)]
    clear hb hk
    go_enter Try.func42, Try.ntmps42
    go_wp2_with fail
    refine (HM.out _).mono ?_
    rintro e w1 ⟨rfl, q1⟩
    go_wp2
    go_ret
    exact ⟨rfl, q1⟩
  ·rw [decide_eq_false (by omega)]
   clear hb hk
   go_enter Try.func42, Try.ntmps42
   go_wp2_with fail
   refine (HM.out _).mono ?_
   rintro e w1 ⟨rfl, q1⟩
   go_wp2
   go_ret
   exact ⟨rfl, q1⟩
theorem overS_add (m : ByteArray) (k : Nat) (s : ByteArray) : m.extract 0 k ++ s ++ m.extract (k + s.size) m.size = overS m k s := by
 refine ba_ext ?_
 have e : ∀ a b : ByteArray, (a ++ b).data.toList = a.data.toList ++ b.data.toList := fun a b => by simp
 rw [e, e, extract_list, extract_list, List.append_assoc]
 show _ = m.data.toList.take k ++ (s.data.toList ++ m.data.toList.drop (k + s.size))
 congr 2
 exact List.take_of_length_le (by simp)
theorem refCopy12_ret (m s : ByteArray) (hm : m.size ≤ 70368744177664) (k : Int) (hk : I64 k) : Ret Try.prog 25 #[.string m, .int .i64 k, .string s] (copyV m k s) := by
 intro w
 have H0 := hid (refThere_ret m hm k (s.size : Int) hk)
 unfold copyV
 clear hk
 cases h : thereB m k (s.size : Int) with
 | false =>
  rw [h] at H0
  rw [if_neg (by decide)]
  clear h
  go_enter Try.func25, Try.ntmps25
  go_wp2_with fail
  refine (H0.out _).mono ?_
  rintro e w1 ⟨rfl, q1⟩
  go_wp2
  go_ret2
  exact ⟨rfl, q1⟩
 | true =>
  obtain ⟨g1, g2, g3, g4, g5⟩ := thereB_may h
  rw [h] at H0
  rw [if_pos rfl]
  obtain ⟨kn, rfl⟩ : ∃ kn : Nat, k = (kn : Int) := ⟨k.toNat, by omega⟩
  rw [Int.toNat_natCast]
  have z1 : (kn : Int) ≤ (m.size : Int) := by omega
  have z2 : (0 : Int) ≤ (kn : Int) + (s.size : Int) := by omega
  have z3 : (m.size : Int) ≤ 1048576 := by omega
  have z4 : s.size ≤ 1048576 := by omega
  have HO := hid (overS_add m kn s)
  clear h g2 g4 hm
  go_enter Try.func25, Try.ntmps25
  go_wp2_with fail
  refine (H0.out _).mono ?_
  rintro e w1 ⟨rfl, q1⟩
  go_wp2_with fail
  refine wp_region_quick (C := Grows w1) (by kernel_rfl) (by kernel_rfl) (by kernel_rfl) (grows_refl w1) ?_
  repeat (go_big_quiet_step (fail))
  refine wpQuiet_nil ?_
  rintro _ ⟨x, rfl⟩
  go_wp2
  go_ret2
  rw [← HO.out]
  exact ⟨rfl, q1.trans (x.below.mono q1.size)⟩
def zeroC (n : Nat) : Array Value := (List.replicate n (Value.int .u8 0)).toArray
theorem run_mkZ (W : World) (n : Nat) (hn : n ≤ 1099511627776) : (Instr.makeSlice 58 (.int .i64 (n : Int)) (.int .i64 (n : Int))).run Try.prog W = .ok (.slice (some ⟨W.heap.size, 0, none⟩) n n) (W.alloc (.cells (zeroC n) 5)) := by
 obtain ⟨i0, hi, hz0, hz1, hz2⟩ := info_parts layGrowX.infoByte
 have h := run_make (P := Try.prog) W 58 5 i0 (.int .u8 0) Try.underlying58 hi hz0 .i64 .i64 (n : Int) (n : Int) (by omega) (by omega) (by rw [hz2]; omega) (by omega)
 have e : madeCells #[.int .u8 0] n = zeroC n := by
  refine Array.ext (by simp [madeCells, zeroC]) (fun i h1 h2 => ?_)
  simp [madeCells, zeroC, Nat.mod_one]
 rw [hz1, Nat.mul_one, Int.toNat_natCast, show Value.cells (.int .u8 0) = #[.int .u8 0] from rfl, e] at h
 exact h
theorem run_cvZ (W : World) (g n : Nat) (h : Has W g 5 (zeroC n)) : (convert 58 9 (.slice (some ⟨g, 0, none⟩) n n)).run Try.prog W = .ok (.string (nulls n)) W := by
 have h2 := run_convert_bytes_back (P := Try.prog) W 58 9 5 ⟨g, 0, none⟩ n (List.replicate n (0 : UInt8)) Try.underlying58 Try.underlying5 Try.underlying9 (fun j hj => by
  have hj2 : j < n := by simpa using hj
  rw [show (⟨g, 0, none⟩ : Addr).add j = ⟨g, j, none⟩ by simp [Addr.add]; intro h; exact h.symm]
  refine (h.cell j (.int .u8 0) ?_).trans ?_
  ·simp [zeroC, hj2]
  ·simp)
 rw [List.length_replicate] at h2
 exact h2
theorem fullS_add (m : ByteArray) (n : Nat) : m ++ nulls (n - m.size) = fullS m n := by
 refine ba_ext ?_
 have e : ∀ a b : ByteArray, (a ++ b).data.toList = a.data.toList ++ b.data.toList := fun a b => by simp
 rw [e, fullS_list]
 rfl
theorem refGrow12_ret (m : ByteArray) (hm : m.size ≤ 70368744177664) (k : Int) : Ret Try.prog 17 #[.string m, .int .i64 k] (growV m k) := by
 intro w
 have HM := hid (refMay12_ret m (by omega))
 unfold growV
 cases h2 : mayB m with
 | false =>
  rw [h2] at HM
  rw [Bool.false_and, if_neg (by decide)]
  clear h2
  go_enter Try.func17, Try.ntmps17
  go_wp2_with fail
  refine (HM.out _).mono ?_
  rintro e w2 ⟨rfl, q2⟩
  go_wp2
  go_ret2
  exact ⟨rfl, q2⟩
 | true =>
  rw [h2] at HM
  rw [Bool.true_and]
  cases h1 : limB k 32768 with
  | false =>
   have hk := limB_false h1
   rw [if_neg (by decide)]
   by_cases h0 : k < 0
   ·clear h1 h2 hk
    go_enter Try.func17, Try.ntmps17
    go_wp2_with fail
    refine (HM.out _).mono ?_
    rintro e w2 ⟨rfl, q2⟩
    go_wp2
    go_ret2
    exact ⟨rfl, q2⟩
   ·have h3 : 32768 < k := by omega
    clear h1 h2 hk
    go_enter Try.func17, Try.ntmps17
    go_wp2_with fail
    refine (HM.out _).mono ?_
    rintro e w2 ⟨rfl, q2⟩
    go_wp2
    go_ret2
    exact ⟨rfl, q2⟩
  | true =>
   obtain ⟨g0, g1⟩ := limB_true h1
   rw [if_pos rfl]
   obtain ⟨kn, rfl⟩ : ∃ kn : Nat, k = (kn : Int) := ⟨k.toNat, by omega⟩
   rw [Int.toNat_natCast]
   by_cases h3 : 32 * kn ≤ m.size
   ·rw [fullS_self _ _ h3]
    have h3' : 32 * (kn : Int) ≤ (m.size : Int) := by omega
    clear h1 h2 h3
    go_enter Try.func17, Try.ntmps17
    go_wp2_with fail
    refine (HM.out _).mono ?_
    rintro e w2 ⟨rfl, q2⟩
    go_wp2
    go_ret2
    exact ⟨rfl, q2⟩
   ·have h3' : ¬ 32 * (kn : Int) ≤ (m.size : Int) := by omega
    have eN : 32 * (kn : Int) - (m.size : Int) = ((32 * kn - m.size : Nat) : Int) := by omega
    have HO := hid (fullS_add m (32 * kn))
    obtain ⟨d, hd⟩ : ∃ d, 32 * kn - m.size = d := ⟨_, rfl⟩
    rw [hd] at eN HO
    have hdl : d ≤ 1048576 := by omega
    have hms : m.size ≤ 1048576 := by omega
    have hds : (nulls d).size ≤ 1048576 := by rw [nulls_size]; exact hdl
    clear h1 h2 h3 hd
    go_enter Try.func17, Try.ntmps17
    go_wp2_with fail
    refine (HM.out _).mono ?_
    rintro e w2 ⟨rfl, q2⟩
    have hmk := run_mkZ w2 d (by omega)
    have hcv := run_cvZ _ _ d (Has.new w2 5 (zeroC d))
    have Q := q2.alloc q2.size (.cells (zeroC d) 5)
    go_wp2
    go_ret2
    rw [← HO.out]
    exact ⟨rfl, Q⟩
theorem refLoad_not (m : ByteArray) (k : Int) (h1 : Ret Try.prog 42 #[.string m, .int .i64 k, .int .i64 32] (.bool false)) :
  Ret Try.prog 19 #[.string m, .int .i64 k] (.tuple #[.agg #[.int .u64 0, .int .u64 0, .int .u64 0, .int .u64 0], .int .i64 1]) := by
 intro w
 have Hh1 := hid h1
 clear h1
 go_enter Try.func19, Try.ntmps19
 have LR := Has.new w 24 #[.int .u64 0, .int .u64 0, .int .u64 0, .int .u64 0]
 have k1 := LR.cell 0 _ rfl
 have k2 := LR.cell 1 _ rfl
 have k3 := LR.cell 2 _ rfl
 have k4 := LR.cell 3 _ rfl
 have Q := (Below.refl w.heap.size w)
 have Q := Q.alloc Q.size (.cells #[.int .u64 0, .int .u64 0, .int .u64 0, .int .u64 0] 24)
 go_wp2_with fail
 clear k1 k2 k3 k4
 obtain ⟨W1, hW1⟩ : ∃ W1, (w.alloc (.cells #[.int .u64 0, .int .u64 0, .int .u64 0, .int .u64 0] 24)) = W1 := ⟨_, rfl⟩
 rw [hW1] at LR Q ⊢
 clear hW1
 refine (Hh1.out _).mono ?_
 rintro e v5 ⟨rfl, q⟩
 have LR := LR.later q
 have Q := Q.trans (q.mono Q.size)
 clear q
 have k6 := LR.cell 0 _ rfl
 have k7 := LR.cell 1 _ rfl
 have k8 := LR.cell 2 _ rfl
 have k9 := LR.cell 3 _ rfl
 have z0 := LR.frozen 0
 have z1 := LR.frozen 1
 have z2 := LR.frozen 2
 have z3 := LR.frozen 3
 have HR := hid (((((LR.set 0 (.int .u64 0)).set 1 (.int .u64 0)).set 2 (.int .u64 0)).set 3 (.int .u64 0)))
 have HQ := hid (((((Q.setCell (p := ⟨w.heap.size, 0, none⟩) (show w.heap.size ≤ _ by simp; first | done | omega) (.int .u64 0)).setCell (p := ⟨w.heap.size, 1, none⟩) (show w.heap.size ≤ _ by simp; first | done | omega) (.int .u64 0)).setCell (p := ⟨w.heap.size, 2, none⟩) (show w.heap.size ≤ _ by simp; first | done | omega) (.int .u64 0)).setCell (p := ⟨w.heap.size, 3, none⟩) (show w.heap.size ≤ _ by simp; first | done | omega) (.int .u64 0)))
 clear Q LR
 go_wp2
 refine bodyPost_ret (results_wordE (m := fun _ => 0) rfl rfl HR.out) rfl ⟨rfl, HQ.out⟩
theorem refLoad_is (m : ByteArray) (k : Nat) (z : Nat → Int) (hk : (k : Int) + 32 ≤ (m.size : Int)) (hm : (m.size : Int) ≤ 1048576) (h1 : Ret Try.prog 42 #[.string m, .int .i64 (k : Int), .int .i64 32] (.bool true)) (h2 : Ret Try.prog 43 #[.string (m.extract k (k + 32))] (.agg #[.int .u64 (z 0), .int .u64 (z 1), .int .u64 (z 2), .int .u64 (z 3)])) :
  Ret Try.prog 19 #[.string m, .int .i64 (k : Int)] (.tuple #[.agg #[.int .u64 (z 0), .int .u64 (z 1), .int .u64 (z 2), .int .u64 (z 3)], .int .i64 0]) := by
 intro w
 have s0 : (0 : Int) ≤ (k : Int) := by omega
 have s2 : (k : Int) ≤ (k : Int) + 32 := by omega
 have s3 : (0 : Int) ≤ (k : Int) + 32 := by omega
 have Hh1 := hid h1
 have Hh2 := hid h2
 clear h1 h2
 go_enter Try.func19, Try.ntmps19
 have LR := Has.new w 24 #[.int .u64 0, .int .u64 0, .int .u64 0, .int .u64 0]
 have k1 := LR.cell 0 _ rfl
 have k2 := LR.cell 1 _ rfl
 have k3 := LR.cell 2 _ rfl
 have k4 := LR.cell 3 _ rfl
 have Q := (Below.refl w.heap.size w)
 have Q := Q.alloc Q.size (.cells #[.int .u64 0, .int .u64 0, .int .u64 0, .int .u64 0] 24)
 go_wp2_with fail
 clear k1 k2 k3 k4
 obtain ⟨W1, hW1⟩ : ∃ W1, (w.alloc (.cells #[.int .u64 0, .int .u64 0, .int .u64 0, .int .u64 0] 24)) = W1 := ⟨_, rfl⟩
 rw [hW1] at LR Q ⊢
 clear hW1
 refine (Hh1.out _).mono ?_
 rintro e v5 ⟨rfl, q⟩
 have LR := LR.later q
 have Q := Q.trans (q.mono Q.size)
 clear q
 have k6 := LR.cell 0 _ rfl
 have k7 := LR.cell 1 _ rfl
 have k8 := LR.cell 2 _ rfl
 have k9 := LR.cell 3 _ rfl
 go_wp2_with fail
 clear k6 k7 k8 k9
 refine (Hh2.out _).mono ?_
 rintro e v10 ⟨rfl, q⟩
 have LR := LR.later q
 have Q := Q.trans (q.mono Q.size)
 clear q
 have k11 := LR.cell 0 _ rfl
 have k12 := LR.cell 1 _ rfl
 have k13 := LR.cell 2 _ rfl
 have k14 := LR.cell 3 _ rfl
 have z0 := LR.frozen 0
 have z1 := LR.frozen 1
 have z2 := LR.frozen 2
 have z3 := LR.frozen 3
 have HR := hid (((((LR.set 0 (.int .u64 (z 0))).set 1 (.int .u64 (z 1))).set 2 (.int .u64 (z 2))).set 3 (.int .u64 (z 3))))
 have HQ := hid (((((Q.setCell (p := ⟨w.heap.size, 0, none⟩) (show w.heap.size ≤ _ by simp; first | done | omega) (.int .u64 (z 0))).setCell (p := ⟨w.heap.size, 1, none⟩) (show w.heap.size ≤ _ by simp; first | done | omega) (.int .u64 (z 1))).setCell (p := ⟨w.heap.size, 2, none⟩) (show w.heap.size ≤ _ by simp; first | done | omega) (.int .u64 (z 2))).setCell (p := ⟨w.heap.size, 3, none⟩) (show w.heap.size ≤ _ by simp; first | done | omega) (.int .u64 (z 3))))
 clear Q LR
 go_wp2
 refine bodyPost_ret (results_wordE (m := z) rfl rfl HR.out) rfl ⟨rfl, HQ.out⟩
theorem refLoad12_ret (m : ByteArray) (hm : m.size ≤ 70368744177664) (k : Int) (hk : I64 k) : Ret Try.prog 19 #[.string m, .int .i64 k] (loadV m k) := by
 have h0 := refThere_ret m hm k 32 hk
 unfold loadV
 cases h : thereB m k 32 with
 | false =>
  rw [h] at h0
  rw [if_neg (by decide)]
  exact refLoad_not _ _ h0
 | true =>
  obtain ⟨g1, g2, g3, g4, g5⟩ := thereB_may h
  rw [h] at h0
  rw [if_pos rfl]
  obtain ⟨kn, rfl⟩ : ∃ kn : Nat, k = (kn : Int) := ⟨k.toNat, by omega⟩
  rw [Int.toNat_natCast]
  exact refLoad_is m kn _ g5 (by omega) h0 (refFromBytes_ret _ (by rw [ByteArray.size_extract]; omega))
theorem refStore_walk (m b r : ByteArray) (k e : Int) (za : Nat → Int) (h1 : Ret Try.prog 30 #[.agg #[.int .u64 (za 0), .int .u64 (za 1), .int .u64 (za 2), .int .u64 (za 3)]] (.string b)) (h2 : Ret Try.prog 25 #[.string m, .int .i64 k, .string b] (.tuple #[.string r, .int .i64 e])) :
  Ret Try.prog 21 #[.string m, .int .i64 k, .agg #[.int .u64 (za 0), .int .u64 (za 1), .int .u64 (za 2), .int .u64 (za 3)]] (.tuple #[.string r, .int .i64 e]) := by
 intro w
 have Hh1 := hid h1
 have Hh2 := hid h2
 clear h1 h2
 go_enter Try.func21, Try.ntmps21
 have LA := Has.new w 24 #[.int .u64 (za 0), .int .u64 (za 1), .int .u64 (za 2), .int .u64 (za 3)]
 have k1 := LA.cell 0 _ rfl
 have k2 := LA.cell 1 _ rfl
 have k3 := LA.cell 2 _ rfl
 have k4 := LA.cell 3 _ rfl
 have Q := (Below.refl w.heap.size w)
 have Q := Q.alloc Q.size (.cells #[.int .u64 (za 0), .int .u64 (za 1), .int .u64 (za 2), .int .u64 (za 3)] 24)
 go_wp2_with fail
 clear k1 k2 k3 k4
 obtain ⟨W1, hW1⟩ : ∃ W1, (w.alloc (.cells #[.int .u64 (za 0), .int .u64 (za 1), .int .u64 (za 2), .int .u64 (za 3)] 24)) = W1 := ⟨_, rfl⟩
 rw [hW1] at LA Q ⊢
 clear hW1
 refine (Hh1.out _).mono ?_
 rintro e v5 ⟨rfl, q⟩
 have LA := LA.later q
 have Q := Q.trans (q.mono Q.size)
 clear q
 clear LA
 go_wp2_with fail
 refine (Hh2.out _).mono ?_
 rintro e v6 ⟨rfl, q⟩
 have Q := Q.trans (q.mono Q.size)
 clear q
 go_wp2
 go_ret2
 exact ⟨rfl, Q⟩
theorem refByte_walk (m b r : ByteArray) (k e : Int) (za : Nat → Int) (hb : (b.size : Int) = 32) (h1 : Ret Try.prog 30 #[.agg #[.int .u64 (za 0), .int .u64 (za 1), .int .u64 (za 2), .int .u64 (za 3)]] (.string b)) (h2 : Ret Try.prog 25 #[.string m, .int .i64 k, .string (b.extract 31 b.size)] (.tuple #[.string r, .int .i64 e])) :
  Ret Try.prog 23 #[.string m, .int .i64 k, .agg #[.int .u64 (za 0), .int .u64 (za 1), .int .u64 (za 2), .int .u64 (za 3)]] (.tuple #[.string r, .int .i64 e]) := by
 intro w
 have Hh1 := hid h1
 have Hh2 := hid h2
 clear h1 h2
 go_enter Try.func23, Try.ntmps23
 have LA := Has.new w 24 #[.int .u64 (za 0), .int .u64 (za 1), .int .u64 (za 2), .int .u64 (za 3)]
 have k1 := LA.cell 0 _ rfl
 have k2 := LA.cell 1 _ rfl
 have k3 := LA.cell 2 _ rfl
 have k4 := LA.cell 3 _ rfl
 have Q := (Below.refl w.heap.size w)
 have Q := Q.alloc Q.size (.cells #[.int .u64 (za 0), .int .u64 (za 1), .int .u64 (za 2), .int .u64 (za 3)] 24)
 go_wp2_with fail
 clear k1 k2 k3 k4
 obtain ⟨W1, hW1⟩ : ∃ W1, (w.alloc (.cells #[.int .u64 (za 0), .int .u64 (za 1), .int .u64 (za 2), .int .u64 (za 3)] 24)) = W1 := ⟨_, rfl⟩
 rw [hW1] at LA Q ⊢
 clear hW1
 refine (Hh1.out _).mono ?_
 rintro e v5 ⟨rfl, q⟩
 have LA := LA.later q
 have Q := Q.trans (q.mono Q.size)
 clear q
 clear LA
 go_wp2_with fail
 refine (Hh2.out _).mono ?_
 rintro e v6 ⟨rfl, q⟩
 have Q := Q.trans (q.mono Q.size)
 clear q
 go_wp2
 go_ret2
 exact ⟨rfl, Q⟩
theorem refStore12_ret (m : ByteArray) (hm : m.size ≤ 70368744177664) (k : Int) (hk : I64 k) (a : Nat) : Ret Try.prog 21 #[.string m, .int .i64 k, wv a] (copyV m k (bytesOf a)) := by
 have h := refCopy12_ret m (bytesOf a) hm k hk
 rw [copyV_eq] at h ⊢
 exact refStore_walk _ _ _ _ _ _ (refBytes_ret a) h
theorem refByte12_ret (m : ByteArray) (hm : m.size ≤ 70368744177664) (k : Int) (hk : I64 k) (a : Nat) : Ret Try.prog 23 #[.string m, .int .i64 k, wv a] (copyV m k (lastOf a)) := by
 have h := refCopy12_ret m (lastOf a) hm k hk
 rw [copyV_eq] at h ⊢
 exact refByte_walk _ _ _ _ _ _ (by rw [bytesOf_len]; rfl) (refBytes_ret a) h
theorem refSlice12_ret (m : ByteArray) (hm : m.size ≤ 70368744177664) (k n : Int) (hk : I64 k) : Ret Try.prog 27 #[.string m, .int .i64 k, .int .i64 n] (sliceV m k n) := by
 intro w
 have H0 := hid (refThere_ret m hm k n hk)
 unfold sliceV
 clear hk
 cases h : thereB m k n with
 | false =>
  rw [h] at H0
  rw [if_neg (by decide)]
  clear h
  go_enter Try.func27, Try.ntmps27
  go_wp2_with fail
  refine (H0.out _).mono ?_
  rintro e w1 ⟨rfl, q1⟩
  go_wp2
  go_ret2
  exact ⟨rfl, q1⟩
 | true =>
  obtain ⟨g1, g2, g3, g4, g5⟩ := thereB_may h
  rw [h] at H0
  rw [if_pos rfl]
  obtain ⟨kn, rfl⟩ : ∃ kn : Nat, k = (kn : Int) := ⟨k.toNat, by omega⟩
  obtain ⟨nn, rfl⟩ : ∃ nn : Nat, n = (nn : Int) := ⟨n.toNat, by omega⟩
  have et : ((kn : Int) + (nn : Int)).toNat = kn + nn := by omega
  rw [Int.toNat_natCast, et]
  have g6 : (m.size : Int) ≤ 1048576 := by omega
  have s2 : (kn : Int) ≤ (kn : Int) + (nn : Int) := by omega
  have s3 : (0 : Int) ≤ (kn : Int) + (nn : Int) := by omega
  clear h g1 g2 et hm
  go_enter Try.func27, Try.ntmps27
  go_wp2_with fail
  refine (H0.out _).mono ?_
  rintro e w1 ⟨rfl, q1⟩
  go_wp2
  go_ret2
  exact ⟨rfl, q1⟩
theorem refPiece_not (s : ByteArray) (za : Nat → Int) (n : Int) (hn : n < 0 ∨ (¬ n < 0 ∧ 1048576 < n)) :
  Ret Try.prog 29 #[.string s, .agg #[.int .u64 (za 0), .int .u64 (za 1), .int .u64 (za 2), .int .u64 (za 3)], .int .i64 n] (.tuple #[.string ⟨#[]⟩, .int .i64 1]) := by
 intro w
 have Q := newA w (.cells #[.int .u64 (za 0), .int .u64 (za 1), .int .u64 (za 2), .int .u64 (za 3)] 24)
 obtain hn | ⟨h1, h2⟩ := hn
 ·go_enter Try.func29, Try.ntmps29
  go_wp2
  go_ret2
  exact ⟨rfl, Q⟩
 ·go_enter Try.func29, Try.ntmps29
  go_wp2
  go_ret2
  exact ⟨rfl, Q⟩
theorem refPiece_far (s : ByteArray) (za : Nat → Int) (n : Nat) (y : Int) (hn0 : n ≤ 1048576) (hss : s.size ≤ 70368744177664) (h1 : Ret Try.prog 35 #[.agg #[.int .u64 (za 0), .int .u64 (za 1), .int .u64 (za 2), .int .u64 (za 3)]] (.tuple #[.int .i64 y, .bool false])) :
  Ret Try.prog 29 #[.string s, .agg #[.int .u64 (za 0), .int .u64 (za 1), .int .u64 (za 2), .int .u64 (za 3)], .int .i64 (n : Int)] (.tuple #[.string (nulls n), .int .i64 0]) := by
 intro w
 have Hh1 := hid h1
 clear h1
 have hds : (nulls n).size ≤ 1048576 := by rw [nulls_size]; exact hn0
 have hnI : (n : Int) ≤ 1048576 := by omega
 have hn2 : ¬ (n : Int) < 0 := by omega
 go_enter Try.func29, Try.ntmps29
 have LA := Has.new w 24 #[.int .u64 (za 0), .int .u64 (za 1), .int .u64 (za 2), .int .u64 (za 3)]
 have k1 := LA.cell 0 _ rfl
 have k2 := LA.cell 1 _ rfl
 have k3 := LA.cell 2 _ rfl
 have k4 := LA.cell 3 _ rfl
 have Q := (Below.refl w.heap.size w)
 have Q := Q.alloc Q.size (.cells #[.int .u64 (za 0), .int .u64 (za 1), .int .u64 (za 2), .int .u64 (za 3)] 24)
 go_wp2_with fail
 clear k1 k2 k3 k4
 obtain ⟨W1, hW1⟩ : ∃ W1, (w.alloc (.cells #[.int .u64 (za 0), .int .u64 (za 1), .int .u64 (za 2), .int .u64 (za 3)] 24)) = W1 := ⟨_, rfl⟩
 rw [hW1] at LA Q ⊢
 clear hW1
 refine (Hh1.out _).mono ?_
 rintro e v5 ⟨rfl, q⟩
 have LA := LA.later q
 have Q := Q.trans (q.mono Q.size)
 clear q
 clear LA
 have hmk := run_mkZ v5 n (by omega)
 have hcv := run_cvZ _ _ n (Has.new v5 5 (zeroC n))
 have Q := Q.alloc Q.size (.cells (zeroC n) 5)
 go_wp2
 go_ret2
 exact ⟨rfl, Q⟩
theorem refPiece_out (s : ByteArray) (za : Nat → Int) (n : Nat) (y : Int) (hn0 : n ≤ 1048576) (hss : s.size ≤ 70368744177664) (h1 : Ret Try.prog 35 #[.agg #[.int .u64 (za 0), .int .u64 (za 1), .int .u64 (za 2), .int .u64 (za 3)]] (.tuple #[.int .i64 y, .bool true])) (hy : (s.size : Int) < y) :
  Ret Try.prog 29 #[.string s, .agg #[.int .u64 (za 0), .int .u64 (za 1), .int .u64 (za 2), .int .u64 (za 3)], .int .i64 (n : Int)] (.tuple #[.string (nulls n), .int .i64 0]) := by
 intro w
 have Hh1 := hid h1
 clear h1
 have hds : (nulls n).size ≤ 1048576 := by rw [nulls_size]; exact hn0
 have hnI : (n : Int) ≤ 1048576 := by omega
 have hn2 : ¬ (n : Int) < 0 := by omega
 go_enter Try.func29, Try.ntmps29
 have LA := Has.new w 24 #[.int .u64 (za 0), .int .u64 (za 1), .int .u64 (za 2), .int .u64 (za 3)]
 have k1 := LA.cell 0 _ rfl
 have k2 := LA.cell 1 _ rfl
 have k3 := LA.cell 2 _ rfl
 have k4 := LA.cell 3 _ rfl
 have Q := (Below.refl w.heap.size w)
 have Q := Q.alloc Q.size (.cells #[.int .u64 (za 0), .int .u64 (za 1), .int .u64 (za 2), .int .u64 (za 3)] 24)
 go_wp2_with fail
 clear k1 k2 k3 k4
 obtain ⟨W1, hW1⟩ : ∃ W1, (w.alloc (.cells #[.int .u64 (za 0), .int .u64 (za 1), .int .u64 (za 2), .int .u64 (za 3)] 24)) = W1 := ⟨_, rfl⟩
 rw [hW1] at LA Q ⊢
 clear hW1
 refine (Hh1.out _).mono ?_
 rintro e v5 ⟨rfl, q⟩
 have LA := LA.later q
 have Q := Q.trans (q.mono Q.size)
 clear q
 clear LA
 have hmk := run_mkZ v5 n (by omega)
 have hcv := run_cvZ _ _ n (Has.new v5 5 (zeroC n))
 have Q := Q.alloc Q.size (.cells (zeroC n) 5)
 go_wp2
 go_ret2
 exact ⟨rfl, Q⟩
theorem refPiece_in (s r p t : ByteArray) (za : Nat → Int) (n f : Nat) (y : Int) (hn0 : n ≤ 1048576) (hss : s.size ≤ 70368744177664) (h1 : Ret Try.prog 35 #[.agg #[.int .u64 (za 0), .int .u64 (za 1), .int .u64 (za 2), .int .u64 (za 3)]] (.tuple #[.int .i64 (f : Int), .bool true])) (hr : s.extract f s.size = r) (hy : (f : Int) ≤ (s.size : Int)) (hc : ((n : Int) < (r.size : Int) ∧ r.extract 0 n = p ∧ p.size = n) ∨ (¬ (n : Int) < (r.size : Int) ∧ r = p)) (hpn : p.size ≤ n) (hp : p ++ nulls (n - p.size) = t) :
  Ret Try.prog 29 #[.string s, .agg #[.int .u64 (za 0), .int .u64 (za 1), .int .u64 (za 2), .int .u64 (za 3)], .int .i64 (n : Int)] (.tuple #[.string t, .int .i64 0]) := by
 intro w
 have Hh1 := hid h1
 clear h1
 obtain ⟨d, hd⟩ : ∃ d, n - p.size = d := ⟨_, rfl⟩
 rw [hd] at hp
 have hdI : (n : Int) - (p.size : Int) = (d : Int) := by omega
 have hdl : d ≤ 1048576 := by omega
 have hps : p.size ≤ 1048576 := by omega
 have hds : (nulls d).size ≤ 1048576 := by rw [nulls_size]; exact hdl
 have hnI : (n : Int) ≤ 1048576 := by omega
 clear hd
 go_enter Try.func29, Try.ntmps29
 have LA := Has.new w 24 #[.int .u64 (za 0), .int .u64 (za 1), .int .u64 (za 2), .int .u64 (za 3)]
 have k1 := LA.cell 0 _ rfl
 have k2 := LA.cell 1 _ rfl
 have k3 := LA.cell 2 _ rfl
 have k4 := LA.cell 3 _ rfl
 have Q := (Below.refl w.heap.size w)
 have Q := Q.alloc Q.size (.cells #[.int .u64 (za 0), .int .u64 (za 1), .int .u64 (za 2), .int .u64 (za 3)] 24)
 go_wp2_with fail
 clear k1 k2 k3 k4
 obtain ⟨W1, hW1⟩ : ∃ W1, (w.alloc (.cells #[.int .u64 (za 0), .int .u64 (za 1), .int .u64 (za 2), .int .u64 (za 3)] 24)) = W1 := ⟨_, rfl⟩
 rw [hW1] at LA Q ⊢
 clear hW1
 refine (Hh1.out _).mono ?_
 rintro e v5 ⟨rfl, q⟩
 have LA := LA.later q
 have Q := Q.trans (q.mono Q.size)
 clear q
 clear LA
 have hmk := run_mkZ v5 d (by omega)
 have hcv := run_cvZ _ _ d (Has.new v5 5 (zeroC d))
 have Q := Q.alloc Q.size (.cells (zeroC d) 5)
 obtain ⟨c1, c2, c3⟩ | ⟨c1, c2⟩ := hc
 ·subst hp
  clear hpn c3
  go_wp2
  go_ret2
  exact ⟨rfl, Q⟩
 ·subst c2
  subst hp
  clear hpn
  go_wp2
  go_ret2
  exact ⟨rfl, Q⟩
theorem pieceS_far (s : ByteArray) (a n : Nat) (h : s.size ≤ a) : pieceS s a n = nulls n := by
 refine ba_ext ?_
 rw [pieceS_list, List.drop_of_length_le (by rw [ba_len]; exact h), Nat.sub_eq_zero_of_le h, List.take_nil, List.nil_append, Nat.sub_zero]
 rfl
theorem refPiece12_ret (s : ByteArray) (hs : s.size ≤ 70368744177664) (a : Nat) (ha : W256 a) (n : Int) : Ret Try.prog 29 #[.string s, wv a, .int .i64 n] (pieceV s a n) := by
 unfold pieceV
 cases h : limB n 1048576 with
 | false =>
  have h1 := limB_false h
  rw [if_neg (by decide)]
  exact refPiece_not _ _ _ (by omega)
 | true =>
  obtain ⟨g0, g1⟩ := limB_true h
  rw [if_pos rfl]
  obtain ⟨nn, rfl⟩ : ∃ nn : Nat, n = (nn : Int) := ⟨n.toNat, by omega⟩
  rw [Int.toNat_natCast]
  have hI := refInt_ret a ha
  obtain ⟨r, hr⟩ : ∃ r, s.extract (min a s.size) s.size = r := ⟨_, rfl⟩
  obtain ⟨p, hp⟩ : ∃ p, r.extract 0 (min nn r.size) = p := ⟨_, rfl⟩
  have hps : p.size = min nn r.size := by rw [← hp, ByteArray.size_extract]; omega
  have e : p ++ nulls (nn - p.size) = pieceS s a nn := by
   rw [fullS_add]
   unfold pieceS
   rw [hr, hp]
  have hc : ((nn : Int) < (r.size : Int) ∧ r.extract 0 nn = p ∧ p.size = nn) ∨ (¬ (nn : Int) < (r.size : Int) ∧ r = p) := by
   by_cases hlt : nn < r.size
   ·refine .inl ⟨by omega, ?_, by omega⟩
    rw [← hp, Nat.min_eq_left (by omega)]
   ·refine .inr ⟨by omega, ?_⟩
    rw [← hp, Nat.min_eq_right (by omega)]
    refine ba_ext ?_
    rw [extract_list, List.drop_zero, List.take_of_length_le (by rw [ba_len]; omega)]
  unfold intV at hI
  by_cases hm : a ≤ maxI
  ·rw [if_pos hm] at hI
   by_cases hf : a ≤ s.size
   ·rw [Nat.min_eq_left hf] at hr
    exact refPiece_in s r p _ _ nn a 0 (by omega) hs hI hr (by omega) hc (by omega) e
   ·rw [pieceS_far s a nn (by omega)]
    exact refPiece_out s _ nn _ (by omega) hs hI (by omega)
  ·rw [if_neg hm] at hI
   have hf : ¬ a ≤ s.size := by unfold maxI at hm; omega
   rw [pieceS_far s a nn (by omega)]
   exact refPiece_far s _ nn _ (by omega) hs hI
theorem refNeed_none (za : Nat → Int)  :
  Ret Try.prog 14 #[.agg #[.int .u64 (za 0), .int .u64 (za 1), .int .u64 (za 2), .int .u64 (za 3)], .agg #[.int .u64 0, .int .u64 0, .int .u64 0, .int .u64 0]] (.tuple #[.int .i64 0, .bool true]) := by
 intro w
 go_enter Try.func14, Try.ntmps14
 have LA := Has.new w 24 #[.int .u64 (za 0), .int .u64 (za 1), .int .u64 (za 2), .int .u64 (za 3)]
 have k1 := LA.cell 0 _ rfl
 have k2 := LA.cell 1 _ rfl
 have k3 := LA.cell 2 _ rfl
 have k4 := LA.cell 3 _ rfl
 have LA := LA.alloc (.cells #[.int .u64 0, .int .u64 0, .int .u64 0, .int .u64 0] 24)
 have LN := Has.new (w.alloc (.cells #[.int .u64 (za 0), .int .u64 (za 1), .int .u64 (za 2), .int .u64 (za 3)] 24)) 24 #[.int .u64 0, .int .u64 0, .int .u64 0, .int .u64 0]
 simp only [World.size_alloc] at LN
 have k5 := LA.cell 0 _ rfl
 have k6 := LA.cell 1 _ rfl
 have k7 := LA.cell 2 _ rfl
 have k8 := LA.cell 3 _ rfl
 have k9 := LN.cell 0 _ rfl
 have k10 := LN.cell 1 _ rfl
 have k11 := LN.cell 2 _ rfl
 have k12 := LN.cell 3 _ rfl
 have Q := (Below.refl w.heap.size w)
 have Q := Q.alloc Q.size (.cells #[.int .u64 (za 0), .int .u64 (za 1), .int .u64 (za 2), .int .u64 (za 3)] 24)
 have Q := Q.alloc Q.size (.cells #[.int .u64 0, .int .u64 0, .int .u64 0, .int .u64 0] 24)
 go_wp2
 clear k1 k2 k3 k4 k5 k6 k7 k8 k9 k10 k11 k12
 obtain ⟨W1, hW1⟩ : ∃ W1, ((w.alloc (.cells #[.int .u64 (za 0), .int .u64 (za 1), .int .u64 (za 2), .int .u64 (za 3)] 24)).alloc (.cells #[.int .u64 0, .int .u64 0, .int .u64 0, .int .u64 0] 24)) = W1 := ⟨_, rfl⟩
 rw [hW1] at LA LN Q ⊢
 clear hW1
 go_ret2
 exact ⟨rfl, Q⟩
theorem refNeed_1 (za zn : Nat → Int) (a n r : Int) (ba bn : Bool) (hz : ((zn 0 == 0) && (zn 1 == 0) && (zn 2 == 0) && (zn 3 == 0)) = false) (ha : 0 ≤ a) (hn : 0 ≤ n) (hc : ba = false) (h1 : Ret Try.prog 35 #[.agg #[.int .u64 (za 0), .int .u64 (za 1), .int .u64 (za 2), .int .u64 (za 3)]] (.tuple #[.int .i64 a, .bool ba])) (h2 : Ret Try.prog 35 #[.agg #[.int .u64 (zn 0), .int .u64 (zn 1), .int .u64 (zn 2), .int .u64 (zn 3)]] (.tuple #[.int .i64 n, .bool bn])) :
  Ret Try.prog 14 #[.agg #[.int .u64 (za 0), .int .u64 (za 1), .int .u64 (za 2), .int .u64 (za 3)], .agg #[.int .u64 (zn 0), .int .u64 (zn 1), .int .u64 (zn 2), .int .u64 (zn 3)]] (.tuple #[.int .i64 0, .bool false]) := by
 intro w
 have c0 := hc
 subst c0
 have Hh1 := hid h1
 have Hh2 := hid h2
 clear h1 h2
 go_enter Try.func14, Try.ntmps14
 have LA := Has.new w 24 #[.int .u64 (za 0), .int .u64 (za 1), .int .u64 (za 2), .int .u64 (za 3)]
 have k1 := LA.cell 0 _ rfl
 have k2 := LA.cell 1 _ rfl
 have k3 := LA.cell 2 _ rfl
 have k4 := LA.cell 3 _ rfl
 have LA := LA.alloc (.cells #[.int .u64 (zn 0), .int .u64 (zn 1), .int .u64 (zn 2), .int .u64 (zn 3)] 24)
 have LN := Has.new (w.alloc (.cells #[.int .u64 (za 0), .int .u64 (za 1), .int .u64 (za 2), .int .u64 (za 3)] 24)) 24 #[.int .u64 (zn 0), .int .u64 (zn 1), .int .u64 (zn 2), .int .u64 (zn 3)]
 simp only [World.size_alloc] at LN
 have k5 := LA.cell 0 _ rfl
 have k6 := LA.cell 1 _ rfl
 have k7 := LA.cell 2 _ rfl
 have k8 := LA.cell 3 _ rfl
 have k9 := LN.cell 0 _ rfl
 have k10 := LN.cell 1 _ rfl
 have k11 := LN.cell 2 _ rfl
 have k12 := LN.cell 3 _ rfl
 have Q := (Below.refl w.heap.size w)
 have Q := Q.alloc Q.size (.cells #[.int .u64 (za 0), .int .u64 (za 1), .int .u64 (za 2), .int .u64 (za 3)] 24)
 have Q := Q.alloc Q.size (.cells #[.int .u64 (zn 0), .int .u64 (zn 1), .int .u64 (zn 2), .int .u64 (zn 3)] 24)
 go_wp2_with fail
 clear k1 k2 k3 k4 k5 k6 k7 k8 k9 k10 k11 k12
 obtain ⟨W1, hW1⟩ : ∃ W1, ((w.alloc (.cells #[.int .u64 (za 0), .int .u64 (za 1), .int .u64 (za 2), .int .u64 (za 3)] 24)).alloc (.cells #[.int .u64 (zn 0), .int .u64 (zn 1), .int .u64 (zn 2), .int .u64 (zn 3)] 24)) = W1 := ⟨_, rfl⟩
 rw [hW1] at LA LN Q ⊢
 clear hW1
 refine (Hh1.out _).mono ?_
 rintro e v13 ⟨rfl, q⟩
 have LA := LA.later q
 have LN := LN.later q
 have Q := Q.trans (q.mono Q.size)
 clear q
 have k14 := LA.cell 0 _ rfl
 have k15 := LA.cell 1 _ rfl
 have k16 := LA.cell 2 _ rfl
 have k17 := LA.cell 3 _ rfl
 have k18 := LN.cell 0 _ rfl
 have k19 := LN.cell 1 _ rfl
 have k20 := LN.cell 2 _ rfl
 have k21 := LN.cell 3 _ rfl
 go_wp2_with fail
 clear k14 k15 k16 k17 k18 k19 k20 k21
 refine (Hh2.out _).mono ?_
 rintro e v22 ⟨rfl, q⟩
 have LA := LA.later q
 have LN := LN.later q
 have Q := Q.trans (q.mono Q.size)
 clear q
 go_wp2
 go_ret2
 exact ⟨rfl, Q⟩
theorem refNeed_2 (za zn : Nat → Int) (a n r : Int) (ba bn : Bool) (hz : ((zn 0 == 0) && (zn 1 == 0) && (zn 2 == 0) && (zn 3 == 0)) = false) (ha : 0 ≤ a) (hn : 0 ≤ n) (hc : ba = true ∧ bn = false) (h1 : Ret Try.prog 35 #[.agg #[.int .u64 (za 0), .int .u64 (za 1), .int .u64 (za 2), .int .u64 (za 3)]] (.tuple #[.int .i64 a, .bool ba])) (h2 : Ret Try.prog 35 #[.agg #[.int .u64 (zn 0), .int .u64 (zn 1), .int .u64 (zn 2), .int .u64 (zn 3)]] (.tuple #[.int .i64 n, .bool bn])) :
  Ret Try.prog 14 #[.agg #[.int .u64 (za 0), .int .u64 (za 1), .int .u64 (za 2), .int .u64 (za 3)], .agg #[.int .u64 (zn 0), .int .u64 (zn 1), .int .u64 (zn 2), .int .u64 (zn 3)]] (.tuple #[.int .i64 0, .bool false]) := by
 intro w
 obtain ⟨c0, c1⟩ := hc
 subst c0
 subst c1
 have Hh1 := hid h1
 have Hh2 := hid h2
 clear h1 h2
 go_enter Try.func14, Try.ntmps14
 have LA := Has.new w 24 #[.int .u64 (za 0), .int .u64 (za 1), .int .u64 (za 2), .int .u64 (za 3)]
 have k1 := LA.cell 0 _ rfl
 have k2 := LA.cell 1 _ rfl
 have k3 := LA.cell 2 _ rfl
 have k4 := LA.cell 3 _ rfl
 have LA := LA.alloc (.cells #[.int .u64 (zn 0), .int .u64 (zn 1), .int .u64 (zn 2), .int .u64 (zn 3)] 24)
 have LN := Has.new (w.alloc (.cells #[.int .u64 (za 0), .int .u64 (za 1), .int .u64 (za 2), .int .u64 (za 3)] 24)) 24 #[.int .u64 (zn 0), .int .u64 (zn 1), .int .u64 (zn 2), .int .u64 (zn 3)]
 simp only [World.size_alloc] at LN
 have k5 := LA.cell 0 _ rfl
 have k6 := LA.cell 1 _ rfl
 have k7 := LA.cell 2 _ rfl
 have k8 := LA.cell 3 _ rfl
 have k9 := LN.cell 0 _ rfl
 have k10 := LN.cell 1 _ rfl
 have k11 := LN.cell 2 _ rfl
 have k12 := LN.cell 3 _ rfl
 have Q := (Below.refl w.heap.size w)
 have Q := Q.alloc Q.size (.cells #[.int .u64 (za 0), .int .u64 (za 1), .int .u64 (za 2), .int .u64 (za 3)] 24)
 have Q := Q.alloc Q.size (.cells #[.int .u64 (zn 0), .int .u64 (zn 1), .int .u64 (zn 2), .int .u64 (zn 3)] 24)
 go_wp2_with fail
 clear k1 k2 k3 k4 k5 k6 k7 k8 k9 k10 k11 k12
 obtain ⟨W1, hW1⟩ : ∃ W1, ((w.alloc (.cells #[.int .u64 (za 0), .int .u64 (za 1), .int .u64 (za 2), .int .u64 (za 3)] 24)).alloc (.cells #[.int .u64 (zn 0), .int .u64 (zn 1), .int .u64 (zn 2), .int .u64 (zn 3)] 24)) = W1 := ⟨_, rfl⟩
 rw [hW1] at LA LN Q ⊢
 clear hW1
 refine (Hh1.out _).mono ?_
 rintro e v13 ⟨rfl, q⟩
 have LA := LA.later q
 have LN := LN.later q
 have Q := Q.trans (q.mono Q.size)
 clear q
 have k14 := LA.cell 0 _ rfl
 have k15 := LA.cell 1 _ rfl
 have k16 := LA.cell 2 _ rfl
 have k17 := LA.cell 3 _ rfl
 have k18 := LN.cell 0 _ rfl
 have k19 := LN.cell 1 _ rfl
 have k20 := LN.cell 2 _ rfl
 have k21 := LN.cell 3 _ rfl
 go_wp2_with fail
 clear k14 k15 k16 k17 k18 k19 k20 k21
 refine (Hh2.out _).mono ?_
 rintro e v22 ⟨rfl, q⟩
 have LA := LA.later q
 have LN := LN.later q
 have Q := Q.trans (q.mono Q.size)
 clear q
 go_wp2
 go_ret2
 exact ⟨rfl, Q⟩
theorem refNeed_3 (za zn : Nat → Int) (a n r : Int) (ba bn : Bool) (hz : ((zn 0 == 0) && (zn 1 == 0) && (zn 2 == 0) && (zn 3 == 0)) = false) (ha : 0 ≤ a) (hn : 0 ≤ n) (hc : ba = true ∧ bn = true ∧ 1048576 < a) (h1 : Ret Try.prog 35 #[.agg #[.int .u64 (za 0), .int .u64 (za 1), .int .u64 (za 2), .int .u64 (za 3)]] (.tuple #[.int .i64 a, .bool ba])) (h2 : Ret Try.prog 35 #[.agg #[.int .u64 (zn 0), .int .u64 (zn 1), .int .u64 (zn 2), .int .u64 (zn 3)]] (.tuple #[.int .i64 n, .bool bn])) :
  Ret Try.prog 14 #[.agg #[.int .u64 (za 0), .int .u64 (za 1), .int .u64 (za 2), .int .u64 (za 3)], .agg #[.int .u64 (zn 0), .int .u64 (zn 1), .int .u64 (zn 2), .int .u64 (zn 3)]] (.tuple #[.int .i64 0, .bool false]) := by
 intro w
 obtain ⟨c0, c1, c2⟩ := hc
 subst c0
 subst c1
 have Hh1 := hid h1
 have Hh2 := hid h2
 clear h1 h2
 go_enter Try.func14, Try.ntmps14
 have LA := Has.new w 24 #[.int .u64 (za 0), .int .u64 (za 1), .int .u64 (za 2), .int .u64 (za 3)]
 have k1 := LA.cell 0 _ rfl
 have k2 := LA.cell 1 _ rfl
 have k3 := LA.cell 2 _ rfl
 have k4 := LA.cell 3 _ rfl
 have LA := LA.alloc (.cells #[.int .u64 (zn 0), .int .u64 (zn 1), .int .u64 (zn 2), .int .u64 (zn 3)] 24)
 have LN := Has.new (w.alloc (.cells #[.int .u64 (za 0), .int .u64 (za 1), .int .u64 (za 2), .int .u64 (za 3)] 24)) 24 #[.int .u64 (zn 0), .int .u64 (zn 1), .int .u64 (zn 2), .int .u64 (zn 3)]
 simp only [World.size_alloc] at LN
 have k5 := LA.cell 0 _ rfl
 have k6 := LA.cell 1 _ rfl
 have k7 := LA.cell 2 _ rfl
 have k8 := LA.cell 3 _ rfl
 have k9 := LN.cell 0 _ rfl
 have k10 := LN.cell 1 _ rfl
 have k11 := LN.cell 2 _ rfl
 have k12 := LN.cell 3 _ rfl
 have Q := (Below.refl w.heap.size w)
 have Q := Q.alloc Q.size (.cells #[.int .u64 (za 0), .int .u64 (za 1), .int .u64 (za 2), .int .u64 (za 3)] 24)
 have Q := Q.alloc Q.size (.cells #[.int .u64 (zn 0), .int .u64 (zn 1), .int .u64 (zn 2), .int .u64 (zn 3)] 24)
 go_wp2_with fail
 clear k1 k2 k3 k4 k5 k6 k7 k8 k9 k10 k11 k12
 obtain ⟨W1, hW1⟩ : ∃ W1, ((w.alloc (.cells #[.int .u64 (za 0), .int .u64 (za 1), .int .u64 (za 2), .int .u64 (za 3)] 24)).alloc (.cells #[.int .u64 (zn 0), .int .u64 (zn 1), .int .u64 (zn 2), .int .u64 (zn 3)] 24)) = W1 := ⟨_, rfl⟩
 rw [hW1] at LA LN Q ⊢
 clear hW1
 refine (Hh1.out _).mono ?_
 rintro e v13 ⟨rfl, q⟩
 have LA := LA.later q
 have LN := LN.later q
 have Q := Q.trans (q.mono Q.size)
 clear q
 have k14 := LA.cell 0 _ rfl
 have k15 := LA.cell 1 _ rfl
 have k16 := LA.cell 2 _ rfl
 have k17 := LA.cell 3 _ rfl
 have k18 := LN.cell 0 _ rfl
 have k19 := LN.cell 1 _ rfl
 have k20 := LN.cell 2 _ rfl
 have k21 := LN.cell 3 _ rfl
 go_wp2_with fail
 clear k14 k15 k16 k17 k18 k19 k20 k21
 refine (Hh2.out _).mono ?_
 rintro e v22 ⟨rfl, q⟩
 have LA := LA.later q
 have LN := LN.later q
 have Q := Q.trans (q.mono Q.size)
 clear q
 go_wp2
 go_ret2
 exact ⟨rfl, Q⟩
theorem refNeed_4 (za zn : Nat → Int) (a n r : Int) (ba bn : Bool) (hz : ((zn 0 == 0) && (zn 1 == 0) && (zn 2 == 0) && (zn 3 == 0)) = false) (ha : 0 ≤ a) (hn : 0 ≤ n) (hc : ba = true ∧ bn = true ∧ ¬ 1048576 < a ∧ 1048576 < n) (h1 : Ret Try.prog 35 #[.agg #[.int .u64 (za 0), .int .u64 (za 1), .int .u64 (za 2), .int .u64 (za 3)]] (.tuple #[.int .i64 a, .bool ba])) (h2 : Ret Try.prog 35 #[.agg #[.int .u64 (zn 0), .int .u64 (zn 1), .int .u64 (zn 2), .int .u64 (zn 3)]] (.tuple #[.int .i64 n, .bool bn])) :
  Ret Try.prog 14 #[.agg #[.int .u64 (za 0), .int .u64 (za 1), .int .u64 (za 2), .int .u64 (za 3)], .agg #[.int .u64 (zn 0), .int .u64 (zn 1), .int .u64 (zn 2), .int .u64 (zn 3)]] (.tuple #[.int .i64 0, .bool false]) := by
 intro w
 obtain ⟨c0, c1, c2, c3⟩ := hc
 subst c0
 subst c1
 have Hh1 := hid h1
 have Hh2 := hid h2
 clear h1 h2
 go_enter Try.func14, Try.ntmps14
 have LA := Has.new w 24 #[.int .u64 (za 0), .int .u64 (za 1), .int .u64 (za 2), .int .u64 (za 3)]
 have k1 := LA.cell 0 _ rfl
 have k2 := LA.cell 1 _ rfl
 have k3 := LA.cell 2 _ rfl
 have k4 := LA.cell 3 _ rfl
 have LA := LA.alloc (.cells #[.int .u64 (zn 0), .int .u64 (zn 1), .int .u64 (zn 2), .int .u64 (zn 3)] 24)
 have LN := Has.new (w.alloc (.cells #[.int .u64 (za 0), .int .u64 (za 1), .int .u64 (za 2), .int .u64 (za 3)] 24)) 24 #[.int .u64 (zn 0), .int .u64 (zn 1), .int .u64 (zn 2), .int .u64 (zn 3)]
 simp only [World.size_alloc] at LN
 have k5 := LA.cell 0 _ rfl
 have k6 := LA.cell 1 _ rfl
 have k7 := LA.cell 2 _ rfl
 have k8 := LA.cell 3 _ rfl
 have k9 := LN.cell 0 _ rfl
 have k10 := LN.cell 1 _ rfl
 have k11 := LN.cell 2 _ rfl
 have k12 := LN.cell 3 _ rfl
 have Q := (Below.refl w.heap.size w)
 have Q := Q.alloc Q.size (.cells #[.int .u64 (za 0), .int .u64 (za 1), .int .u64 (za 2), .int .u64 (za 3)] 24)
 have Q := Q.alloc Q.size (.cells #[.int .u64 (zn 0), .int .u64 (zn 1), .int .u64 (zn 2), .int .u64 (zn 3)] 24)
 go_wp2_with fail
 clear k1 k2 k3 k4 k5 k6 k7 k8 k9 k10 k11 k12
 obtain ⟨W1, hW1⟩ : ∃ W1, ((w.alloc (.cells #[.int .u64 (za 0), .int .u64 (za 1), .int .u64 (za 2), .int .u64 (za 3)] 24)).alloc (.cells #[.int .u64 (zn 0), .int .u64 (zn 1), .int .u64 (zn 2), .int .u64 (zn 3)] 24)) = W1 := ⟨_, rfl⟩
 rw [hW1] at LA LN Q ⊢
 clear hW1
 refine (Hh1.out _).mono ?_
 rintro e v13 ⟨rfl, q⟩
 have LA := LA.later q
 have LN := LN.later q
 have Q := Q.trans (q.mono Q.size)
 clear q
 have k14 := LA.cell 0 _ rfl
 have k15 := LA.cell 1 _ rfl
 have k16 := LA.cell 2 _ rfl
 have k17 := LA.cell 3 _ rfl
 have k18 := LN.cell 0 _ rfl
 have k19 := LN.cell 1 _ rfl
 have k20 := LN.cell 2 _ rfl
 have k21 := LN.cell 3 _ rfl
 go_wp2_with fail
 clear k14 k15 k16 k17 k18 k19 k20 k21
 refine (Hh2.out _).mono ?_
 rintro e v22 ⟨rfl, q⟩
 have LA := LA.later q
 have LN := LN.later q
 have Q := Q.trans (q.mono Q.size)
 clear q
 go_wp2
 go_ret2
 exact ⟨rfl, Q⟩
theorem refNeed_5 (za zn : Nat → Int) (a n r : Int) (ba bn : Bool) (hz : ((zn 0 == 0) && (zn 1 == 0) && (zn 2 == 0) && (zn 3 == 0)) = false) (ha : 0 ≤ a) (hn : 0 ≤ n) (hc : ba = true ∧ bn = true ∧ ¬ 1048576 < a ∧ ¬ 1048576 < n ∧ 1048576 < a + n) (h1 : Ret Try.prog 35 #[.agg #[.int .u64 (za 0), .int .u64 (za 1), .int .u64 (za 2), .int .u64 (za 3)]] (.tuple #[.int .i64 a, .bool ba])) (h2 : Ret Try.prog 35 #[.agg #[.int .u64 (zn 0), .int .u64 (zn 1), .int .u64 (zn 2), .int .u64 (zn 3)]] (.tuple #[.int .i64 n, .bool bn])) :
  Ret Try.prog 14 #[.agg #[.int .u64 (za 0), .int .u64 (za 1), .int .u64 (za 2), .int .u64 (za 3)], .agg #[.int .u64 (zn 0), .int .u64 (zn 1), .int .u64 (zn 2), .int .u64 (zn 3)]] (.tuple #[.int .i64 0, .bool false]) := by
 intro w
 obtain ⟨c0, c1, c2, c3, c4⟩ := hc
 subst c0
 subst c1
 have Hh1 := hid h1
 have Hh2 := hid h2
 clear h1 h2
 go_enter Try.func14, Try.ntmps14
 have LA := Has.new w 24 #[.int .u64 (za 0), .int .u64 (za 1), .int .u64 (za 2), .int .u64 (za 3)]
 have k1 := LA.cell 0 _ rfl
 have k2 := LA.cell 1 _ rfl
 have k3 := LA.cell 2 _ rfl
 have k4 := LA.cell 3 _ rfl
 have LA := LA.alloc (.cells #[.int .u64 (zn 0), .int .u64 (zn 1), .int .u64 (zn 2), .int .u64 (zn 3)] 24)
 have LN := Has.new (w.alloc (.cells #[.int .u64 (za 0), .int .u64 (za 1), .int .u64 (za 2), .int .u64 (za 3)] 24)) 24 #[.int .u64 (zn 0), .int .u64 (zn 1), .int .u64 (zn 2), .int .u64 (zn 3)]
 simp only [World.size_alloc] at LN
 have k5 := LA.cell 0 _ rfl
 have k6 := LA.cell 1 _ rfl
 have k7 := LA.cell 2 _ rfl
 have k8 := LA.cell 3 _ rfl
 have k9 := LN.cell 0 _ rfl
 have k10 := LN.cell 1 _ rfl
 have k11 := LN.cell 2 _ rfl
 have k12 := LN.cell 3 _ rfl
 have Q := (Below.refl w.heap.size w)
 have Q := Q.alloc Q.size (.cells #[.int .u64 (za 0), .int .u64 (za 1), .int .u64 (za 2), .int .u64 (za 3)] 24)
 have Q := Q.alloc Q.size (.cells #[.int .u64 (zn 0), .int .u64 (zn 1), .int .u64 (zn 2), .int .u64 (zn 3)] 24)
 go_wp2_with fail
 clear k1 k2 k3 k4 k5 k6 k7 k8 k9 k10 k11 k12
 obtain ⟨W1, hW1⟩ : ∃ W1, ((w.alloc (.cells #[.int .u64 (za 0), .int .u64 (za 1), .int .u64 (za 2), .int .u64 (za 3)] 24)).alloc (.cells #[.int .u64 (zn 0), .int .u64 (zn 1), .int .u64 (zn 2), .int .u64 (zn 3)] 24)) = W1 := ⟨_, rfl⟩
 rw [hW1] at LA LN Q ⊢
 clear hW1
 refine (Hh1.out _).mono ?_
 rintro e v13 ⟨rfl, q⟩
 have LA := LA.later q
 have LN := LN.later q
 have Q := Q.trans (q.mono Q.size)
 clear q
 have k14 := LA.cell 0 _ rfl
 have k15 := LA.cell 1 _ rfl
 have k16 := LA.cell 2 _ rfl
 have k17 := LA.cell 3 _ rfl
 have k18 := LN.cell 0 _ rfl
 have k19 := LN.cell 1 _ rfl
 have k20 := LN.cell 2 _ rfl
 have k21 := LN.cell 3 _ rfl
 go_wp2_with fail
 clear k14 k15 k16 k17 k18 k19 k20 k21
 refine (Hh2.out _).mono ?_
 rintro e v22 ⟨rfl, q⟩
 have LA := LA.later q
 have LN := LN.later q
 have Q := Q.trans (q.mono Q.size)
 clear q
 go_wp2
 go_ret2
 exact ⟨rfl, Q⟩
theorem refNeed_6 (za zn : Nat → Int) (a n r : Int) (ba bn : Bool) (hz : ((zn 0 == 0) && (zn 1 == 0) && (zn 2 == 0) && (zn 3 == 0)) = false) (ha : 0 ≤ a) (hn : 0 ≤ n) (hc : ba = true ∧ bn = true ∧ ¬ 1048576 < a ∧ ¬ 1048576 < n ∧ ¬ 1048576 < a + n ∧ (a + n + 31).tdiv 32 = r ∧ 0 ≤ r ∧ r ≤ 100000) (h1 : Ret Try.prog 35 #[.agg #[.int .u64 (za 0), .int .u64 (za 1), .int .u64 (za 2), .int .u64 (za 3)]] (.tuple #[.int .i64 a, .bool ba])) (h2 : Ret Try.prog 35 #[.agg #[.int .u64 (zn 0), .int .u64 (zn 1), .int .u64 (zn 2), .int .u64 (zn 3)]] (.tuple #[.int .i64 n, .bool bn])) :
  Ret Try.prog 14 #[.agg #[.int .u64 (za 0), .int .u64 (za 1), .int .u64 (za 2), .int .u64 (za 3)], .agg #[.int .u64 (zn 0), .int .u64 (zn 1), .int .u64 (zn 2), .int .u64 (zn 3)]] (.tuple #[.int .i64 r, .bool true]) := by
 intro w
 obtain ⟨c0, c1, c2, c3, c4, c5, c6, c7⟩ := hc
 subst c0
 subst c1
 have Hh1 := hid h1
 have Hh2 := hid h2
 clear h1 h2
 go_enter Try.func14, Try.ntmps14
 have LA := Has.new w 24 #[.int .u64 (za 0), .int .u64 (za 1), .int .u64 (za 2), .int .u64 (za 3)]
 have k1 := LA.cell 0 _ rfl
 have k2 := LA.cell 1 _ rfl
 have k3 := LA.cell 2 _ rfl
 have k4 := LA.cell 3 _ rfl
 have LA := LA.alloc (.cells #[.int .u64 (zn 0), .int .u64 (zn 1), .int .u64 (zn 2), .int .u64 (zn 3)] 24)
 have LN := Has.new (w.alloc (.cells #[.int .u64 (za 0), .int .u64 (za 1), .int .u64 (za 2), .int .u64 (za 3)] 24)) 24 #[.int .u64 (zn 0), .int .u64 (zn 1), .int .u64 (zn 2), .int .u64 (zn 3)]
 simp only [World.size_alloc] at LN
 have k5 := LA.cell 0 _ rfl
 have k6 := LA.cell 1 _ rfl
 have k7 := LA.cell 2 _ rfl
 have k8 := LA.cell 3 _ rfl
 have k9 := LN.cell 0 _ rfl
 have k10 := LN.cell 1 _ rfl
 have k11 := LN.cell 2 _ rfl
 have k12 := LN.cell 3 _ rfl
 have Q := (Below.refl w.heap.size w)
 have Q := Q.alloc Q.size (.cells #[.int .u64 (za 0), .int .u64 (za 1), .int .u64 (za 2), .int .u64 (za 3)] 24)
 have Q := Q.alloc Q.size (.cells #[.int .u64 (zn 0), .int .u64 (zn 1), .int .u64 (zn 2), .int .u64 (zn 3)] 24)
 go_wp2_with fail
 clear k1 k2 k3 k4 k5 k6 k7 k8 k9 k10 k11 k12
 obtain ⟨W1, hW1⟩ : ∃ W1, ((w.alloc (.cells #[.int .u64 (za 0), .int .u64 (za 1), .int .u64 (za 2), .int .u64 (za 3)] 24)).alloc (.cells #[.int .u64 (zn 0), .int .u64 (zn 1), .int .u64 (zn 2), .int .u64 (zn 3)] 24)) = W1 := ⟨_, rfl⟩
 rw [hW1] at LA LN Q ⊢
 clear hW1
 refine (Hh1.out _).mono ?_
 rintro e v13 ⟨rfl, q⟩
 have LA := LA.later q
 have LN := LN.later q
 have Q := Q.trans (q.mono Q.size)
 clear q
 have k14 := LA.cell 0 _ rfl
 have k15 := LA.cell 1 _ rfl
 have k16 := LA.cell 2 _ rfl
 have k17 := LA.cell 3 _ rfl
 have k18 := LN.cell 0 _ rfl
 have k19 := LN.cell 1 _ rfl
 have k20 := LN.cell 2 _ rfl
 have k21 := LN.cell 3 _ rfl
 go_wp2_with fail
 clear k14 k15 k16 k17 k18 k19 k20 k21
 refine (Hh2.out _).mono ?_
 rintro e v22 ⟨rfl, q⟩
 have LA := LA.later q
 have LN := LN.later q
 have Q := Q.trans (q.mono Q.size)
 clear q
 go_wp2
 go_ret2
 exact ⟨rfl, Q⟩
theorem refNeed12_ret (a n : Nat) (ha : W256 a) (hn : W256 n) : Ret Try.prog 14 #[wv a, wv n] (needV a n) := by
 unfold needV
 by_cases h0 : n = 0
 ·subst h0
  rw [if_pos rfl]
  exact refNeed_none _
 ·rw [if_neg h0]
  have hz : ((lim n 0 == 0) && (lim n 1 == 0) && (lim n 2 == 0) && (lim n 3 == 0)) = false := by
   have h := eqvM n 0 hn (by unfold W256; omega)
   simp only [lim_zero] at h
   rw [h]; exact decide_eq_false h0
  have h1 := refInt_ret a ha
  have h2 := refInt_ret n hn
  have hI : ∀ x : Nat, ∃ (y : Int) (b : Bool), intV x = .tuple #[.int .i64 y, .bool b] ∧ 0 ≤ y ∧ ((b = true ∧ y = (x : Int)) ∨ (b = false ∧ 1048576 < x)) := fun x => by
   unfold intV
   split
   ·exact ⟨_, _, rfl, by omega, .inl ⟨rfl, rfl⟩⟩
   ·rename_i hx
    exact ⟨_, _, rfl, by omega, .inr ⟨rfl, by unfold maxI at hx; omega⟩⟩
  obtain ⟨ya, ba, ea, pa, ca⟩ := hI a
  obtain ⟨yn, bn, en, pn, cn⟩ := hI n
  rw [ea] at h1
  rw [en] at h2
  by_cases h : a + n ≤ 1048576
  ·rw [if_pos h]
   obtain ⟨ba1, ya1⟩ : ba = true ∧ ya = (a : Int) := ca.elim id (fun c => absurd c.2 (by omega))
   obtain ⟨bn1, yn1⟩ : bn = true ∧ yn = (n : Int) := cn.elim id (fun c => absurd c.2 (by omega))
   refine refNeed_6 _ _ _ _ _ _ _ hz pa pn ⟨ba1, bn1, by omega, by omega, by omega, ?_, by omega, by omega⟩ h1 h2
   rw [ya1, yn1, Int.tdiv_eq_ediv_of_nonneg (by omega)]
   omega
  ·rw [if_neg h]
   rcases ca with ⟨ba1, ya1⟩ | ⟨ba1, ya1⟩
   ·rcases cn with ⟨bn1, yn1⟩ | ⟨bn1, yn1⟩
    ·by_cases c1 : 1048576 < a
     ·exact refNeed_3 _ _ _ _ 0 _ _ hz pa pn ⟨ba1, bn1, by omega⟩ h1 h2
     ·by_cases c2 : 1048576 < n
      ·exact refNeed_4 _ _ _ _ 0 _ _ hz pa pn ⟨ba1, bn1, by omega, by omega⟩ h1 h2
      ·exact refNeed_5 _ _ _ _ 0 _ _ hz pa pn ⟨ba1, bn1, by omega, by omega, by omega⟩ h1 h2
    ·exact refNeed_2 _ _ _ _ 0 _ _ hz pa pn ⟨ba1, bn1⟩ h1 h2
   ·exact refNeed_1 _ _ _ _ 0 _ _ hz pa pn ba1 h1 h2
end
section
open Go Go.RowKit
structure Both (za : Nat → Int) (put : ByteArray) (zo : Int → Nat → Int) (gR : ByteArray → Int → ByteArray) (gE : ByteArray → Int → Int) (lz : ByteArray → Int → Nat → Int) (lE : ByteArray → Int → Int) (sR : ByteArray → Int → ByteArray) (sE : ByteArray → Int → Int)
  (bR : ByteArray → Int → ByteArray) (bE : ByteArray → Int → Int) (cR : ByteArray → Int → ByteArray) (cE : ByteArray → Int → Int) (lR : ByteArray → Int → Int → ByteArray) (lF : ByteArray → Int → Int → Int) (pR : ByteArray → Int → Int → ByteArray) (pE : ByteArray → Int → Int → Int) (qR : ByteArray → Int → ByteArray) (qE : ByteArray → Int → Int) : Prop where
 of : ∀ k, I64 k → Ret Try.prog 12 #[.int .i64 k] (.agg #[.int .u64 (zo k 0), .int .u64 (zo k 1), .int .u64 (zo k 2), .int .u64 (zo k 3)])
 grow : ∀ m : ByteArray, m.size ≤ 2000 → ∀ k : Int, Ret Try.prog 16 #[.string m, .int .i64 k] (.tuple #[.string (gR m k), .int .i64 (gE m k)]) ∧ Ret Try.prog 17 #[.string m, .int .i64 k] (.tuple #[.string (gR m k), .int .i64 (gE m k)])
 load : ∀ m : ByteArray, m.size ≤ 2000 → ∀ k : Int, I64 k → Ret Try.prog 18 #[.string m, .int .i64 k] (.tuple #[.agg #[.int .u64 (lz m k 0), .int .u64 (lz m k 1), .int .u64 (lz m k 2), .int .u64 (lz m k 3)], .int .i64 (lE m k)]) ∧ Ret Try.prog 19 #[.string m, .int .i64 k] (.tuple #[.agg #[.int .u64 (lz m k 0), .int .u64 (lz m k 1), .int .u64 (lz m k 2), .int .u64 (lz m k 3)], .int .i64 (lE m k)])
 store : ∀ m : ByteArray, m.size ≤ 2000 → ∀ k : Int, I64 k → Ret Try.prog 20 #[.string m, .int .i64 k, .agg #[.int .u64 (za 0), .int .u64 (za 1), .int .u64 (za 2), .int .u64 (za 3)]] (.tuple #[.string (sR m k), .int .i64 (sE m k)]) ∧ Ret Try.prog 21 #[.string m, .int .i64 k, .agg #[.int .u64 (za 0), .int .u64 (za 1), .int .u64 (za 2), .int .u64 (za 3)]] (.tuple #[.string (sR m k), .int .i64 (sE m k)])
 byte : ∀ m : ByteArray, m.size ≤ 2000 → ∀ k : Int, I64 k → Ret Try.prog 22 #[.string m, .int .i64 k, .agg #[.int .u64 (za 0), .int .u64 (za 1), .int .u64 (za 2), .int .u64 (za 3)]] (.tuple #[.string (bR m k), .int .i64 (bE m k)]) ∧ Ret Try.prog 23 #[.string m, .int .i64 k, .agg #[.int .u64 (za 0), .int .u64 (za 1), .int .u64 (za 2), .int .u64 (za 3)]] (.tuple #[.string (bR m k), .int .i64 (bE m k)])
 copy : ∀ m : ByteArray, m.size ≤ 2000 → ∀ k : Int, I64 k → Ret Try.prog 24 #[.string m, .int .i64 k, .string put] (.tuple #[.string (cR m k), .int .i64 (cE m k)]) ∧ Ret Try.prog 25 #[.string m, .int .i64 k, .string put] (.tuple #[.string (cR m k), .int .i64 (cE m k)])
 slice : ∀ m : ByteArray, m.size ≤ 2000 → ∀ k : Int, I64 k → ∀ n : Int, Ret Try.prog 26 #[.string m, .int .i64 k, .int .i64 n] (.tuple #[.string (lR m k n), .int .i64 (lF m k n)]) ∧ Ret Try.prog 27 #[.string m, .int .i64 k, .int .i64 n] (.tuple #[.string (lR m k n), .int .i64 (lF m k n)])
 piece : ∀ m : ByteArray, m.size ≤ 2000 → ∀ k : Int, I64 k → ∀ n : Int, Ret Try.prog 28 #[.string m, .agg #[.int .u64 (zo k 0), .int .u64 (zo k 1), .int .u64 (zo k 2), .int .u64 (zo k 3)], .int .i64 n] (.tuple #[.string (pR m k n), .int .i64 (pE m k n)]) ∧ Ret Try.prog 29 #[.string m, .agg #[.int .u64 (zo k 0), .int .u64 (zo k 1), .int .u64 (zo k 2), .int .u64 (zo k 3)], .int .i64 n] (.tuple #[.string (pR m k n), .int .i64 (pE m k n)])
 pieceA : ∀ m : ByteArray, m.size ≤ 2000 → ∀ n : Int, Ret Try.prog 28 #[.string m, .agg #[.int .u64 (za 0), .int .u64 (za 1), .int .u64 (za 2), .int .u64 (za 3)], .int .i64 n] (.tuple #[.string (qR m n), .int .i64 (qE m n)]) ∧ Ret Try.prog 29 #[.string m, .agg #[.int .u64 (za 0), .int .u64 (za 1), .int .u64 (za 2), .int .u64 (za 3)], .int .i64 n] (.tuple #[.string (qR m n), .int .i64 (qE m n)])
end
end Go.Proofs.Ytpolmfmlklmmcaa
