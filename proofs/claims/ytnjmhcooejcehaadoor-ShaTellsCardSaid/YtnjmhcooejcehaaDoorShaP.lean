/- The laws' first calls: all of them answer as they should. -/
import Derived.Test.YtnjmhcooejcehaaDoorShaO
namespace Go.Proofs.YtnjmhcooejcehaaDoor
open Go Go.RowKit Go.Shelf
attribute [local go_sem] Oper.semAt_some Grows wide_fn

set_option maxRecDepth 100000 in
set_option maxHeartbeats 4000000 in
theorem awake_walk (a b : ByteArray) (ha : a.size = 32) (hb : b.size = 32) (ha6 : a.extract 0 6 = ⟨#[227, 176, 196, 66, 152, 252]⟩) (hb6 : b.extract 0 6 = ⟨#[186, 120, 22, 191, 143, 1]⟩)
    (h1 : RetT Tryd.prog 10 #[.string ⟨#[]⟩] (.tuple #[.string a, .int .i64 0])) (h2 : RetT Tryd.prog 10 #[.string ⟨#[97, 98, 99]⟩] (.tuple #[.string b, .int .i64 0]))
    (o2 : Ret Tryd.prog 12 #[.int .i64 2] (W4 2 0 0 0)) (o3 : Ret Tryd.prog 12 #[.int .i64 3] (W4 3 0 0 0)) (o4 : Ret Tryd.prog 12 #[.int .i64 4] (W4 4 0 0 0))
    (h3 : RetT Tryd.prog 15 #[W4 4 0 0 0, .string ⟨#[104, 101, 108, 108, 111]⟩, .int .i64 20] (.tuple #[.string ⟨#[104, 101, 108, 108, 111]⟩, .int .i64 2, .bool true]))
    (h4 : RetT Tryd.prog 15 #[W4 2 0 0 0, .string ⟨#[97, 98, 99]⟩, .int .i64 100] (.tuple #[.string b, .int .i64 28, .bool true]))
    (h5 : Ret Tryd.prog 15 #[W4 2 0 0 0, .string ⟨#[97, 98, 99]⟩, .int .i64 71] (.tuple #[.string ⟨#[]⟩, .int .i64 0, .bool false]))
    (h6 : Ret Tryd.prog 13 #[W4 3 0 0 0, .int .i64 5] (.tuple #[.int .i64 0, .bool false])) : RetT Tryd.prog 8 #[] (.bool true) := by
  intro w HT
  have H1 := Lib.hid h1
  have H2 := Lib.hid h2
  have H3 := Lib.hid h3
  have H4 := Lib.hid h4
  have H5 := Lib.hid h5
  have H6 := Lib.hid h6
  have O2 := Lib.hid o2
  have O3 := Lib.hid o3
  have O4 := Lib.hid o4
  clear h1 h2 h3 h4 h5 h6 o2 o3 o4
  have haI : (a.size : Int) = 32 := by omega
  have hbI : (b.size : Int) = 32 := by omega
  have Q := Below.refl w.heap.size w
  go_enter Tryd.func8, Tryd.ntmps8
  go_wp2_with fail
  refine (H1.out _ HT).mono ?_
  rintro e w1 ⟨rfl, q⟩
  have HT := HT.later q
  have Q := Q.trans (q.mono Q.size)
  clear q
  go_wp2_with fail
  refine (H2.out _ HT).mono ?_
  rintro e w2 ⟨rfl, q⟩
  have HT := HT.later q
  have Q := Q.trans (q.mono Q.size)
  clear q
  go_wp2_with fail
  refine (O4.out _).mono ?_
  rintro e w3 ⟨rfl, q⟩
  have HT := HT.later q
  have Q := Q.trans (q.mono Q.size)
  clear q
  go_wp2_with fail
  refine (H3.out _ HT).mono ?_
  rintro e w4 ⟨rfl, q⟩
  have HT := HT.later q
  have Q := Q.trans (q.mono Q.size)
  clear q
  go_wp2_with fail
  refine (O2.out _).mono ?_
  rintro e w5 ⟨rfl, q⟩
  have HT := HT.later q
  have Q := Q.trans (q.mono Q.size)
  clear q
  go_wp2_with fail
  refine (H4.out _ HT).mono ?_
  rintro e w6 ⟨rfl, q⟩
  have HT := HT.later q
  have Q := Q.trans (q.mono Q.size)
  clear q
  go_wp2_with fail
  refine (O2.out _).mono ?_
  rintro e w7 ⟨rfl, q⟩
  have Q := Q.trans (q.mono Q.size)
  clear q
  go_wp2_with fail
  refine (H5.out _).mono ?_
  rintro e w8 ⟨rfl, q⟩
  have Q := Q.trans (q.mono Q.size)
  clear q
  go_wp2_with fail
  refine (O3.out _).mono ?_
  rintro e w9 ⟨rfl, q⟩
  have Q := Q.trans (q.mono Q.size)
  clear q
  go_wp2_with fail
  refine (H6.out _).mono ?_
  rintro e w10 ⟨rfl, q⟩
  have Q := Lib.hid (Q.trans (q.mono Q.size))
  clear q
  go_wp2
  go_ret
  exact ⟨rfl, Q.out⟩

theorem awake_ret : RetT Tryd.prog 8 #[] (.bool true) :=
  awake_walk (sumS nul) (sumS abc) (sumS_size _) (sumS_size _) nul_head abc_head (sum_ret nul (by decide)) (sum_ret abc (by decide)) (refOf_small 2 (by omega)) (refOf_small 3 (by omega)) (refOf_small 4 (by omega))
    (run_four hello (by decide) 20 (by decide) (by unfold I64; omega)) (run_two abc (by decide) 100 (by decide) (by unfold I64; omega)) (run_two_no abc (by decide) 71 (by decide)) (cost_else 3 5 (by unfold W256; omega) (by decide) (by decide) (by omega))
end Go.Proofs.YtnjmhcooejcehaaDoor
