/- ShaAgain: the walk, and the answer. -/
import Derived.Test.YtnjmhcooejcehaaDoorShaP
namespace Go.Proofs.YtnjmhcooejcehaaDoor
open Go Go.RowKit Go.Shelf
attribute [local go_sem] Oper.semAt_some Grows wide_fn eq4

set_option maxRecDepth 100000 in
set_option maxHeartbeats 4000000 in
theorem again_walk (s x a b : ByteArray) (l r : Int) (hsz : s.size ≤ 140737488355328) (hx1 : (s.size : Int) ≤ 50 → x = s) (hx2 : 50 ≤ (s.size : Int) → s.extract 0 50 = x) (hb : b.size = 32) (hl : 0 ≤ l ∧ l ≤ 1000) (hr : l - 72 = r)
    (h0 : RetT Tryd.prog 8 #[] (.bool true)) (o2 : Ret Tryd.prog 12 #[.int .i64 2] (W4 2 0 0 0)) (g1 : RetT Tryd.prog 10 #[.string x] (.tuple #[.string a, .int .i64 0])) (g2 : RetT Tryd.prog 10 #[.string a] (.tuple #[.string b, .int .i64 0])) (r1 : RetT Tryd.prog 15 #[W4 2 0 0 0, .string x, .int .i64 1000] (.tuple #[.string a, .int .i64 l, .bool true])) (r2 : RetT Tryd.prog 15 #[W4 2 0 0 0, .string a, .int .i64 l] (.tuple #[.string b, .int .i64 r, .bool true])) :
    RetT Tryd.prog 7 #[.string s] (.bool true) := by
  intro w HT0
  have H0 := Lib.hid h0
  have O2 := Lib.hid o2
  have G1 := Lib.hid g1
  have G2 := Lib.hid g2
  have R1 := Lib.hid r1
  have R2 := Lib.hid r2
  have HX1 := Lib.hid hx1
  have HX2 := Lib.hid hx2
  clear h0 o2 g1 g2 r1 r2 hx1 hx2
  have HT := Lib.hid HT0
  have Q := Lib.hid (Below.refl w.heap.size w)
  clear HT0
  have hsI : (s.size : Int) ≤ 140737488355328 := by omega
  have hbI : (b.size : Int) = 32 := by omega
  obtain ⟨l0, l1⟩ := hl
  clear hsz
  go_enter Tryd.func7, Tryd.ntmps7
  go_wp2_with fail
  refine (H0.out _ HT.out).mono ?_
  rintro e w1 ⟨rfl, q⟩
  replace HT := Lib.hid (HT.out.later q)
  replace Q := Lib.hid (Q.out.trans (q.mono Q.out.size))
  clear q
  rcases (show (s.size : Int) < 50 ∨ (s.size : Int) = 50 ∨ 50 < (s.size : Int) by omega) with hc | hc | hc
  · obtain rfl : x = s := HX1.out (by omega)
    clear HX1 HX2
    go_wp2_with fail
    refine (G1.out _ HT.out).mono ?_
    rintro e w2 ⟨rfl, q⟩
    replace HT := Lib.hid (HT.out.later q)
    replace Q := Lib.hid (Q.out.trans (q.mono Q.out.size))
    clear q
    go_wp2_with fail
    refine (G2.out _ HT.out).mono ?_
    rintro e w3 ⟨rfl, q⟩
    replace HT := Lib.hid (HT.out.later q)
    replace Q := Lib.hid (Q.out.trans (q.mono Q.out.size))
    clear q
    go_wp2_with fail
    refine (G1.out _ HT.out).mono ?_
    rintro e w4 ⟨rfl, q⟩
    replace HT := Lib.hid (HT.out.later q)
    replace Q := Lib.hid (Q.out.trans (q.mono Q.out.size))
    clear q
    go_wp2_with fail
    refine (O2.out _).mono ?_
    rintro e w5 ⟨rfl, q⟩
    replace HT := Lib.hid (HT.out.later q)
    replace Q := Lib.hid (Q.out.trans (q.mono Q.out.size))
    clear q
    go_wp2_with fail
    refine (R1.out _ HT.out).mono ?_
    rintro e w6 ⟨rfl, q⟩
    replace HT := Lib.hid (HT.out.later q)
    replace Q := Lib.hid (Q.out.trans (q.mono Q.out.size))
    clear q
    go_wp2_with fail
    refine (O2.out _).mono ?_
    rintro e w7 ⟨rfl, q⟩
    replace HT := Lib.hid (HT.out.later q)
    replace Q := Lib.hid (Q.out.trans (q.mono Q.out.size))
    clear q
    go_wp2_with fail
    refine (R2.out _ HT.out).mono ?_
    rintro e w8 ⟨rfl, q⟩
    replace HT := Lib.hid (HT.out.later q)
    replace Q := Lib.hid (Q.out.trans (q.mono Q.out.size))
    clear q
    go_wp2
    go_ret
    exact ⟨rfl, Q.out⟩
  · have hcut := HX2.out (by omega)
    obtain rfl : x = s := HX1.out (by omega)
    clear hsI
    clear HX1 HX2
    go_wp2_with fail
    refine (G1.out _ HT.out).mono ?_
    rintro e w2 ⟨rfl, q⟩
    replace HT := Lib.hid (HT.out.later q)
    replace Q := Lib.hid (Q.out.trans (q.mono Q.out.size))
    clear q
    go_wp2_with fail
    refine (G2.out _ HT.out).mono ?_
    rintro e w3 ⟨rfl, q⟩
    replace HT := Lib.hid (HT.out.later q)
    replace Q := Lib.hid (Q.out.trans (q.mono Q.out.size))
    clear q
    go_wp2_with fail
    refine (G1.out _ HT.out).mono ?_
    rintro e w4 ⟨rfl, q⟩
    replace HT := Lib.hid (HT.out.later q)
    replace Q := Lib.hid (Q.out.trans (q.mono Q.out.size))
    clear q
    go_wp2_with fail
    refine (O2.out _).mono ?_
    rintro e w5 ⟨rfl, q⟩
    replace HT := Lib.hid (HT.out.later q)
    replace Q := Lib.hid (Q.out.trans (q.mono Q.out.size))
    clear q
    go_wp2_with fail
    refine (R1.out _ HT.out).mono ?_
    rintro e w6 ⟨rfl, q⟩
    replace HT := Lib.hid (HT.out.later q)
    replace Q := Lib.hid (Q.out.trans (q.mono Q.out.size))
    clear q
    go_wp2_with fail
    refine (O2.out _).mono ?_
    rintro e w7 ⟨rfl, q⟩
    replace HT := Lib.hid (HT.out.later q)
    replace Q := Lib.hid (Q.out.trans (q.mono Q.out.size))
    clear q
    go_wp2_with fail
    refine (R2.out _ HT.out).mono ?_
    rintro e w8 ⟨rfl, q⟩
    replace HT := Lib.hid (HT.out.later q)
    replace Q := Lib.hid (Q.out.trans (q.mono Q.out.size))
    clear q
    go_wp2
    go_ret
    exact ⟨rfl, Q.out⟩
  · have hcut := HX2.out (by omega)
    clear HX1 HX2
    go_wp2_with fail
    refine (G1.out _ HT.out).mono ?_
    rintro e w2 ⟨rfl, q⟩
    replace HT := Lib.hid (HT.out.later q)
    replace Q := Lib.hid (Q.out.trans (q.mono Q.out.size))
    clear q
    go_wp2_with fail
    refine (G2.out _ HT.out).mono ?_
    rintro e w3 ⟨rfl, q⟩
    replace HT := Lib.hid (HT.out.later q)
    replace Q := Lib.hid (Q.out.trans (q.mono Q.out.size))
    clear q
    go_wp2_with fail
    refine (G1.out _ HT.out).mono ?_
    rintro e w4 ⟨rfl, q⟩
    replace HT := Lib.hid (HT.out.later q)
    replace Q := Lib.hid (Q.out.trans (q.mono Q.out.size))
    clear q
    go_wp2_with fail
    refine (O2.out _).mono ?_
    rintro e w5 ⟨rfl, q⟩
    replace HT := Lib.hid (HT.out.later q)
    replace Q := Lib.hid (Q.out.trans (q.mono Q.out.size))
    clear q
    go_wp2_with fail
    refine (R1.out _ HT.out).mono ?_
    rintro e w6 ⟨rfl, q⟩
    replace HT := Lib.hid (HT.out.later q)
    replace Q := Lib.hid (Q.out.trans (q.mono Q.out.size))
    clear q
    go_wp2_with fail
    refine (O2.out _).mono ?_
    rintro e w7 ⟨rfl, q⟩
    replace HT := Lib.hid (HT.out.later q)
    replace Q := Lib.hid (Q.out.trans (q.mono Q.out.size))
    clear q
    go_wp2_with fail
    refine (R2.out _ HT.out).mono ?_
    rintro e w8 ⟨rfl, q⟩
    replace HT := Lib.hid (HT.out.later q)
    replace Q := Lib.hid (Q.out.trans (q.mono Q.out.size))
    clear q
    go_wp2
    go_ret
    exact ⟨rfl, Q.out⟩

theorem cut_all (s : ByteArray) (n : Nat) (h : s.size ≤ n) : s.extract 0 n = s := by
  apply ByteArray.ext
  rw [ByteArray.data_extract]
  apply Array.toList_inj.1
  have hsz : s.data.size ≤ n := h
  rw [Array.toList_extract]
  simp [List.extract]
  exact List.take_of_length_le (by simp; omega)
theorem sAgain_ret (s : ByteArray) (hs : s.size ≤ 140737488355328) : RetT Tryd.prog 7 #[.string s] (.bool true) := by
  obtain ⟨x, hx⟩ : ∃ x, s.extract 0 50 = x := ⟨_, rfl⟩
  have hxs : x.size ≤ 50 := by rw [← hx, ByteArray.size_extract]; omega
  have hp : pcs x.size ≤ 2 := by unfold pcs; omega
  have hb : pcs (sumS x).size = 1 := by rw [sumS_size]; rfl
  have hl : I64 (1000 - (60 + 12 * (pcs x.size : Int))) := by unfold I64; omega
  have h2 := run_two (sumS x) (by rw [sumS_size]; omega) (1000 - (60 + 12 * (pcs x.size : Int))) (by rw [hb]; omega) hl
  rw [hb] at h2
  exact again_walk s x (sumS x) (sumS (sumS x)) (1000 - (60 + 12 * (pcs x.size : Int))) _ hs (fun h => by rw [← hx]; exact cut_all s 50 (by omega)) (fun _ => hx) (sumS_size _) (by omega) (by omega)
    awake_ret (refOf_small 2 (by omega)) (sum_ret x (by omega)) (sum_ret (sumS x) (by rw [sumS_size]; omega)) (run_two x (by omega) 1000 (by omega) (by unfold I64; omega)) h2
end Go.Proofs.YtnjmhcooejcehaaDoor
