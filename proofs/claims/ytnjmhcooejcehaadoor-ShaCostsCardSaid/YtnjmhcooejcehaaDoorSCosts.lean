/- ShaCosts: the walk, and the answer. -/
import Derived.Test.YtnjmhcooejcehaaDoorShaP
namespace Go.Proofs.YtnjmhcooejcehaaDoor
open Go Go.RowKit Go.Shelf
attribute [local go_sem] Oper.semAt_some Grows wide_fn eq4

set_option maxRecDepth 100000 in
set_option maxHeartbeats 4000000 in
theorem costs_walk (x n a b c d st : Int) (hn : 0 ≤ n ∧ n < 90000) (ba : 0 ≤ a ∧ a ≤ 1000000000) (bb : 0 ≤ b ∧ b ≤ 1000000000) (bc : 0 ≤ c ∧ c ≤ 1000000000) (bd : 0 ≤ d ∧ d ≤ 1000000000)
    (hst : (n.tmod 32 = 0 ∧ st = 12) ∨ (∃ r : Int, n.tmod 32 = r ∧ r ≠ 0 ∧ st = 0)) (e1 : b - a = st) (e2 : d - a = 12) (e3 : a - 60 = 4 * (c - 15))
    (h0 : RetT Tryd.prog 8 #[] (.bool true)) (hp : Ret Tryd.prog 9 #[.int .i64 x, .int .i64 90000] (.int .i64 n)) (o2 : Ret Tryd.prog 12 #[.int .i64 2] (W4 2 0 0 0)) (o4 : Ret Tryd.prog 12 #[.int .i64 4] (W4 4 0 0 0))
    (ca : Ret Tryd.prog 13 #[W4 2 0 0 0, .int .i64 n] (.tuple #[.int .i64 a, .bool true])) (cb : Ret Tryd.prog 13 #[W4 2 0 0 0, .int .i64 (n + 1)] (.tuple #[.int .i64 b, .bool true])) (cc : Ret Tryd.prog 13 #[W4 4 0 0 0, .int .i64 n] (.tuple #[.int .i64 c, .bool true])) (cd : Ret Tryd.prog 13 #[W4 2 0 0 0, .int .i64 (n + 32)] (.tuple #[.int .i64 d, .bool true])) :
    RetT Tryd.prog 5 #[.int .i64 x] (.bool true) := by
  intro w HT0
  have H0 := Lib.hid h0
  have HP := Lib.hid hp
  have O2 := Lib.hid o2
  have O4 := Lib.hid o4
  have CA := Lib.hid ca
  have CB := Lib.hid cb
  have CC := Lib.hid cc
  have CD := Lib.hid cd
  clear h0 hp o2 o4 ca cb cc cd
  have HT := Lib.hid HT0
  have Q := Lib.hid (Below.refl w.heap.size w)
  clear HT0
  obtain ⟨n0, n1⟩ := hn
  obtain ⟨a0, a1⟩ := ba
  obtain ⟨b0, b1⟩ := bb
  obtain ⟨c0, c1⟩ := bc
  obtain ⟨d0, d1⟩ := bd
  have m0 : -1000000000 ≤ c - 15 := by omega
  have m1 : c - 15 ≤ 1000000000 := by omega
  rcases hst with ⟨hr, rfl⟩ | ⟨r, hr, hr0, rfl⟩
  · go_enter Tryd.func5, Tryd.ntmps5
    go_wp2_with fail
    refine (H0.out _ HT.out).mono ?_
    rintro e w1 ⟨rfl, q⟩
    replace HT := Lib.hid (HT.out.later q)
    replace Q := Lib.hid (Q.out.trans (q.mono Q.out.size))
    clear q
    go_wp2_with fail
    refine (HP.out _).mono ?_
    rintro e w2 ⟨rfl, q⟩
    replace HT := Lib.hid (HT.out.later q)
    replace Q := Lib.hid (Q.out.trans (q.mono Q.out.size))
    clear q
    go_wp2_with fail
    refine (O2.out _).mono ?_
    rintro e w3 ⟨rfl, q⟩
    replace HT := Lib.hid (HT.out.later q)
    replace Q := Lib.hid (Q.out.trans (q.mono Q.out.size))
    clear q
    go_wp2_with fail
    refine (CA.out _).mono ?_
    rintro e w4 ⟨rfl, q⟩
    replace HT := Lib.hid (HT.out.later q)
    replace Q := Lib.hid (Q.out.trans (q.mono Q.out.size))
    clear q
    go_wp2_with fail
    refine (O2.out _).mono ?_
    rintro e w5 ⟨rfl, q⟩
    replace HT := Lib.hid (HT.out.later q)
    replace Q := Lib.hid (Q.out.trans (q.mono Q.out.size))
    clear q
    go_wp2_with fail
    refine (CB.out _).mono ?_
    rintro e w6 ⟨rfl, q⟩
    replace HT := Lib.hid (HT.out.later q)
    replace Q := Lib.hid (Q.out.trans (q.mono Q.out.size))
    clear q
    go_wp2_with fail
    refine (O4.out _).mono ?_
    rintro e w7 ⟨rfl, q⟩
    replace HT := Lib.hid (HT.out.later q)
    replace Q := Lib.hid (Q.out.trans (q.mono Q.out.size))
    clear q
    go_wp2_with fail
    refine (CC.out _).mono ?_
    rintro e w8 ⟨rfl, q⟩
    replace HT := Lib.hid (HT.out.later q)
    replace Q := Lib.hid (Q.out.trans (q.mono Q.out.size))
    clear q
    go_wp2_with fail
    refine (O2.out _).mono ?_
    rintro e w9 ⟨rfl, q⟩
    replace HT := Lib.hid (HT.out.later q)
    replace Q := Lib.hid (Q.out.trans (q.mono Q.out.size))
    clear q
    go_wp2_with fail
    refine (CD.out _).mono ?_
    rintro e w10 ⟨rfl, q⟩
    replace HT := Lib.hid (HT.out.later q)
    replace Q := Lib.hid (Q.out.trans (q.mono Q.out.size))
    clear q
    go_wp2
    go_ret
    exact ⟨rfl, Q.out⟩
  · go_enter Tryd.func5, Tryd.ntmps5
    go_wp2_with fail
    refine (H0.out _ HT.out).mono ?_
    rintro e w1 ⟨rfl, q⟩
    replace HT := Lib.hid (HT.out.later q)
    replace Q := Lib.hid (Q.out.trans (q.mono Q.out.size))
    clear q
    go_wp2_with fail
    refine (HP.out _).mono ?_
    rintro e w2 ⟨rfl, q⟩
    replace HT := Lib.hid (HT.out.later q)
    replace Q := Lib.hid (Q.out.trans (q.mono Q.out.size))
    clear q
    go_wp2_with fail
    refine (O2.out _).mono ?_
    rintro e w3 ⟨rfl, q⟩
    replace HT := Lib.hid (HT.out.later q)
    replace Q := Lib.hid (Q.out.trans (q.mono Q.out.size))
    clear q
    go_wp2_with fail
    refine (CA.out _).mono ?_
    rintro e w4 ⟨rfl, q⟩
    replace HT := Lib.hid (HT.out.later q)
    replace Q := Lib.hid (Q.out.trans (q.mono Q.out.size))
    clear q
    go_wp2_with fail
    refine (O2.out _).mono ?_
    rintro e w5 ⟨rfl, q⟩
    replace HT := Lib.hid (HT.out.later q)
    replace Q := Lib.hid (Q.out.trans (q.mono Q.out.size))
    clear q
    go_wp2_with fail
    refine (CB.out _).mono ?_
    rintro e w6 ⟨rfl, q⟩
    replace HT := Lib.hid (HT.out.later q)
    replace Q := Lib.hid (Q.out.trans (q.mono Q.out.size))
    clear q
    go_wp2_with fail
    refine (O4.out _).mono ?_
    rintro e w7 ⟨rfl, q⟩
    replace HT := Lib.hid (HT.out.later q)
    replace Q := Lib.hid (Q.out.trans (q.mono Q.out.size))
    clear q
    go_wp2_with fail
    refine (CC.out _).mono ?_
    rintro e w8 ⟨rfl, q⟩
    replace HT := Lib.hid (HT.out.later q)
    replace Q := Lib.hid (Q.out.trans (q.mono Q.out.size))
    clear q
    go_wp2_with fail
    refine (O2.out _).mono ?_
    rintro e w9 ⟨rfl, q⟩
    replace HT := Lib.hid (HT.out.later q)
    replace Q := Lib.hid (Q.out.trans (q.mono Q.out.size))
    clear q
    go_wp2_with fail
    refine (CD.out _).mono ?_
    rintro e w10 ⟨rfl, q⟩
    replace HT := Lib.hid (HT.out.later q)
    replace Q := Lib.hid (Q.out.trans (q.mono Q.out.size))
    clear q
    go_wp2
    go_ret
    exact ⟨rfl, Q.out⟩

theorem sCosts_ret (x : Int) (hx : I64 x) : RetT Tryd.prog 5 #[.int .i64 x] (.bool true) := by
  obtain ⟨h0, h1⟩ := pickN_range x 90000 (by omega)
  obtain ⟨n, hn⟩ : ∃ n : Nat, pickN x 90000 = (n : Int) := ⟨(pickN x 90000).toNat, by omega⟩
  have hp := pick_ret x hx 90000 (by omega) (by omega)
  rw [hn] at hp h0 h1
  have e1 : pcs (n + 1) = pcs n + (if n % 32 = 0 then 1 else 0) := by unfold pcs; split <;> omega
  have e2 : pcs (n + 32) = pcs n + 1 := by unfold pcs; omega
  have e0 : pcs n ≤ 3000 := by unfold pcs; omega
  have hm : (n : Int).tmod 32 = ((n % 32 : Nat) : Int) := by rw [Int.tmod_eq_emod_of_nonneg (by omega)]; omega
  refine costs_walk x (n : Int) (60 + 12 * (pcs n : Int)) (60 + 12 * (pcs (n + 1) : Int)) (15 + 3 * (pcs n : Int)) (60 + 12 * (pcs (n + 32) : Int)) (if n % 32 = 0 then 12 else 0) ⟨h0, h1⟩ (by omega) ?_ (by omega) (by omega) ?_ ?_ (by omega) (by omega)
    awake_ret hp (refOf_small 2 (by omega)) (refOf_small 4 (by omega)) (cost_two n (by omega)) (cost_two (n + 1) (by omega)) (cost_four n (by omega)) (cost_two (n + 32) (by omega))
  · rw [e1]; split <;> omega
  · by_cases h : n % 32 = 0
    · exact .inl ⟨by rw [hm, h]; rfl, if_pos h⟩
    · exact .inr ⟨_, hm, by omega, if_neg h⟩
  · rw [e1]; split <;> omega
end Go.Proofs.YtnjmhcooejcehaaDoor
