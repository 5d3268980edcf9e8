/- What package bit answers at the numbers of the laws' first call; that call answers true. -/
import Derived.Test.YtnlcllhjhbaigaaDoorBitQ
import Derived.Test.YtnlcllhjhbaigaaDoorRefD
namespace Go.Proofs.YtnlcllhjhbaigaaDoor
open Go Go.RowKit
attribute [local go_sem] Oper.semAt_some Grows wide_fn eq4

theorem c_of1 : Ret Tryd.prog 18 #[.int .i64 1] (W4 1 0 0 0) := (refOf_ret 1 (by unfold I64; omega)).of_eq rfl (wv_of ⟨by decide, by decide, by decide, by decide⟩)
theorem c_ofm3 : Ret Tryd.prog 18 #[.int .i64 (-3)] (W4 18446744073709551613 18446744073709551615 18446744073709551615 18446744073709551615) := (refOf_ret (-3) (by unfold I64; omega)).of_eq rfl (wv_of ⟨by decide, by decide, by decide, by decide⟩)
theorem c_ofm2 : Ret Tryd.prog 18 #[.int .i64 (-2)] (W4 18446744073709551614 18446744073709551615 18446744073709551615 18446744073709551615) := (refOf_ret (-2) (by unfold I64; omega)).of_eq rfl (wv_of ⟨by decide, by decide, by decide, by decide⟩)
theorem c_of255 : Ret Tryd.prog 18 #[.int .i64 255] (W4 255 0 0 0) := (refOf_ret 255 (by unfold I64; omega)).of_eq rfl (wv_of ⟨by decide, by decide, by decide, by decide⟩)
theorem c_ofm1 : Ret Tryd.prog 18 #[.int .i64 (-1)] (W4 18446744073709551615 18446744073709551615 18446744073709551615 18446744073709551615) := (refOf_ret (-1) (by unfold I64; omega)).of_eq rfl (wv_of ⟨by decide, by decide, by decide, by decide⟩)
theorem c_of31 : Ret Tryd.prog 18 #[.int .i64 31] (W4 31 0 0 0) := (refOf_ret 31 (by unfold I64; omega)).of_eq rfl (wv_of ⟨by decide, by decide, by decide, by decide⟩)
theorem c_of7 : Ret Tryd.prog 18 #[.int .i64 7] (W4 7 0 0 0) := (refOf_ret 7 (by unfold I64; omega)).of_eq rfl (wv_of ⟨by decide, by decide, by decide, by decide⟩)
theorem c_of64 : Ret Tryd.prog 18 #[.int .i64 64] (W4 64 0 0 0) := (refOf_ret 64 (by unfold I64; omega)).of_eq rfl (wv_of ⟨by decide, by decide, by decide, by decide⟩)
theorem c_of5 : Ret Tryd.prog 18 #[.int .i64 5] (W4 5 0 0 0) := (refOf_ret 5 (by unfold I64; omega)).of_eq rfl (wv_of ⟨by decide, by decide, by decide, by decide⟩)
theorem c_of2 : Ret Tryd.prog 18 #[.int .i64 2] (W4 2 0 0 0) := (refOf_ret 2 (by unfold I64; omega)).of_eq rfl (wv_of ⟨by decide, by decide, by decide, by decide⟩)
theorem c_of12 : Ret Tryd.prog 18 #[.int .i64 12] (W4 12 0 0 0) := (refOf_ret 12 (by unfold I64; omega)).of_eq rfl (wv_of ⟨by decide, by decide, by decide, by decide⟩)
theorem c_of10 : Ret Tryd.prog 18 #[.int .i64 10] (W4 10 0 0 0) := (refOf_ret 10 (by unfold I64; omega)).of_eq rfl (wv_of ⟨by decide, by decide, by decide, by decide⟩)
theorem c_of8 : Ret Tryd.prog 18 #[.int .i64 8] (W4 8 0 0 0) := (refOf_ret 8 (by unfold I64; omega)).of_eq rfl (wv_of ⟨by decide, by decide, by decide, by decide⟩)
theorem c_of14 : Ret Tryd.prog 18 #[.int .i64 14] (W4 14 0 0 0) := (refOf_ret 14 (by unfold I64; omega)).of_eq rfl (wv_of ⟨by decide, by decide, by decide, by decide⟩)
theorem c_of6 : Ret Tryd.prog 18 #[.int .i64 6] (W4 6 0 0 0) := (refOf_ret 6 (by unfold I64; omega)).of_eq rfl (wv_of ⟨by decide, by decide, by decide, by decide⟩)
theorem c_sar : RetT Tryd.prog 24 #[W4 1 0 0 0, W4 18446744073709551613 18446744073709551615 18446744073709551615 18446744073709551615] (W4 18446744073709551614 18446744073709551615 18446744073709551615 18446744073709551615) := (sar_ret 1 115792089237316195423570985008687907853269984665640564039457584007913129639933 (by unfold W256; omega) (by unfold W256; omega)).of_eq (by rw [wv_of (n := 115792089237316195423570985008687907853269984665640564039457584007913129639933) (x0 := 18446744073709551613) (x1 := 18446744073709551615) (x2 := 18446744073709551615) (x3 := 18446744073709551615) ⟨by decide, by decide, by decide, by decide⟩, wv_of (n := 1) (x0 := 1) (x1 := 0) (x2 := 0) (x3 := 0) ⟨by decide, by decide, by decide, by decide⟩]) (wv_of ⟨by decide +kernel, by decide +kernel, by decide +kernel, by decide +kernel⟩)
theorem c_sign : RetT Tryd.prog 28 #[W4 0 0 0 0, W4 255 0 0 0] (W4 18446744073709551615 18446744073709551615 18446744073709551615 18446744073709551615) := (sign_ret 0 255 (by unfold W256; omega) (by unfold W256; omega)).of_eq (by rw [wv_of (n := 255) (x0 := 255) (x1 := 0) (x2 := 0) (x3 := 0) ⟨by decide, by decide, by decide, by decide⟩, wv_of (n := 0) (x0 := 0) (x1 := 0) (x2 := 0) (x3 := 0) ⟨by decide, by decide, by decide, by decide⟩]) (wv_of ⟨by decide +kernel, by decide +kernel, by decide +kernel, by decide +kernel⟩)
theorem c_byte : Ret Tryd.prog 26 #[W4 31 0 0 0, W4 7 0 0 0] (W4 7 0 0 0) := (byte_ret 31 7 (by unfold W256; omega) (by unfold W256; omega)).of_eq (by rw [wv_of (n := 31) (x0 := 31) (x1 := 0) (x2 := 0) (x3 := 0) ⟨by decide, by decide, by decide, by decide⟩, wv_of (n := 7) (x0 := 7) (x1 := 0) (x2 := 0) (x3 := 0) ⟨by decide, by decide, by decide, by decide⟩]) (wv_of ⟨by decide +kernel, by decide +kernel, by decide +kernel, by decide +kernel⟩)
theorem c_shl : RetT Tryd.prog 20 #[W4 64 0 0 0, W4 5 0 0 0] (W4 0 5 0 0) := (shl_ret 64 5 (by unfold W256; omega) (by unfold W256; omega)).of_eq (by rw [wv_of (n := 64) (x0 := 64) (x1 := 0) (x2 := 0) (x3 := 0) ⟨by decide, by decide, by decide, by decide⟩, wv_of (n := 5) (x0 := 5) (x1 := 0) (x2 := 0) (x3 := 0) ⟨by decide, by decide, by decide, by decide⟩]) (wv_of ⟨by decide +kernel, by decide +kernel, by decide +kernel, by decide +kernel⟩)
theorem c_shr : RetT Tryd.prog 22 #[W4 1 0 0 0, W4 5 0 0 0] (W4 2 0 0 0) := (shr_ret 1 5 (by unfold W256; omega) (by unfold W256; omega)).of_eq (by rw [wv_of (n := 5) (x0 := 5) (x1 := 0) (x2 := 0) (x3 := 0) ⟨by decide, by decide, by decide, by decide⟩, wv_of (n := 1) (x0 := 1) (x1 := 0) (x2 := 0) (x3 := 0) ⟨by decide, by decide, by decide, by decide⟩]) (wv_of ⟨by decide +kernel, by decide +kernel, by decide +kernel, by decide +kernel⟩)
theorem c_and : Ret Tryd.prog 8 #[W4 12 0 0 0, W4 10 0 0 0] (W4 8 0 0 0) := (and_ret 12 10 (by unfold W256; omega) (by unfold W256; omega)).of_eq (by rw [wv_of (n := 12) (x0 := 12) (x1 := 0) (x2 := 0) (x3 := 0) ⟨by decide, by decide, by decide, by decide⟩, wv_of (n := 10) (x0 := 10) (x1 := 0) (x2 := 0) (x3 := 0) ⟨by decide, by decide, by decide, by decide⟩]) (wv_of ⟨by decide +kernel, by decide +kernel, by decide +kernel, by decide +kernel⟩)
theorem c_or : Ret Tryd.prog 10 #[W4 12 0 0 0, W4 10 0 0 0] (W4 14 0 0 0) := (or_ret 12 10 (by unfold W256; omega) (by unfold W256; omega)).of_eq (by rw [wv_of (n := 12) (x0 := 12) (x1 := 0) (x2 := 0) (x3 := 0) ⟨by decide, by decide, by decide, by decide⟩, wv_of (n := 10) (x0 := 10) (x1 := 0) (x2 := 0) (x3 := 0) ⟨by decide, by decide, by decide, by decide⟩]) (wv_of ⟨by decide +kernel, by decide +kernel, by decide +kernel, by decide +kernel⟩)
theorem c_xor : Ret Tryd.prog 12 #[W4 12 0 0 0, W4 10 0 0 0] (W4 6 0 0 0) := (xor_ret 12 10 (by unfold W256; omega) (by unfold W256; omega)).of_eq (by rw [wv_of (n := 12) (x0 := 12) (x1 := 0) (x2 := 0) (x3 := 0) ⟨by decide, by decide, by decide, by decide⟩, wv_of (n := 10) (x0 := 10) (x1 := 0) (x2 := 0) (x3 := 0) ⟨by decide, by decide, by decide, by decide⟩]) (wv_of ⟨by decide +kernel, by decide +kernel, by decide +kernel, by decide +kernel⟩)
theorem c_not : Ret Tryd.prog 14 #[W4 18446744073709551615 18446744073709551615 18446744073709551615 18446744073709551615] (W4 0 0 0 0) := (not_ret 115792089237316195423570985008687907853269984665640564039457584007913129639935 (by unfold W256; omega)).of_eq (by rw [wv_of (n := 115792089237316195423570985008687907853269984665640564039457584007913129639935) (x0 := 18446744073709551615) (x1 := 18446744073709551615) (x2 := 18446744073709551615) (x3 := 18446744073709551615) ⟨by decide, by decide, by decide, by decide⟩]) (wv_of ⟨by decide +kernel, by decide +kernel, by decide +kernel, by decide +kernel⟩)
theorem c_less : Ret Tryd.prog 16 #[W4 18446744073709551615 18446744073709551615 18446744073709551615 18446744073709551615, W4 0 0 0 0] (.bool true) := (less_ret 115792089237316195423570985008687907853269984665640564039457584007913129639935 0 (by unfold W256; omega) (by unfold W256; omega)).of_eq (by rw [wv_of (n := 115792089237316195423570985008687907853269984665640564039457584007913129639935) (x0 := 18446744073709551615) (x1 := 18446744073709551615) (x2 := 18446744073709551615) (x3 := 18446744073709551615) ⟨by decide, by decide, by decide, by decide⟩, wv_of (n := 0) (x0 := 0) (x1 := 0) (x2 := 0) (x3 := 0) ⟨by decide, by decide, by decide, by decide⟩]) (congrArg Value.bool (by decide +kernel))
theorem c_less2 : Ret Tryd.prog 16 #[W4 1 0 0 0, W4 1 0 0 0] (.bool false) := (less_ret 1 1 (by unfold W256; omega) (by unfold W256; omega)).of_eq (by rw [wv_of (n := 1) (x0 := 1) (x1 := 0) (x2 := 0) (x3 := 0) ⟨by decide, by decide, by decide, by decide⟩]) (congrArg Value.bool (by decide +kernel))
set_option maxRecDepth 100000 in
set_option maxHeartbeats 4000000 in
theorem awake_ret   :
    RetT Tryd.prog 7 #[] (.bool true) := by
  intro w HT
  have d0 := c_of1
  have d1 := c_ofm3
  have d2 := c_ofm2
  have d3 := c_of255
  have d4 := c_ofm1
  have d5 := c_of31
  have d6 := c_of7
  have d7 := c_of64
  have d8 := c_of5
  have d9 := c_of2
  have d10 := c_of12
  have d11 := c_of10
  have d12 := c_of8
  have d13 := c_of14
  have d14 := c_of6
  have d15 := c_sar
  have d16 := c_sign
  have d17 := c_byte
  have d18 := c_shl
  have d19 := c_shr
  have d20 := c_and
  have d21 := c_or
  have d22 := c_xor
  have d23 := c_not
  have d24 := c_less
  have d25 := c_less2
  unfold W4 at *
  have Hd0 := Lib.hid d0
  have Hd1 := Lib.hid d1
  have Hd2 := Lib.hid d2
  have Hd3 := Lib.hid d3
  have Hd4 := Lib.hid d4
  have Hd5 := Lib.hid d5
  have Hd6 := Lib.hid d6
  have Hd7 := Lib.hid d7
  have Hd8 := Lib.hid d8
  have Hd9 := Lib.hid d9
  have Hd10 := Lib.hid d10
  have Hd11 := Lib.hid d11
  have Hd12 := Lib.hid d12
  have Hd13 := Lib.hid d13
  have Hd14 := Lib.hid d14
  have Hd15 := Lib.hid d15
  have Hd16 := Lib.hid d16
  have Hd17 := Lib.hid d17
  have Hd18 := Lib.hid d18
  have Hd19 := Lib.hid d19
  have Hd20 := Lib.hid d20
  have Hd21 := Lib.hid d21
  have Hd22 := Lib.hid d22
  have Hd23 := Lib.hid d23
  have Hd24 := Lib.hid d24
  have Hd25 := Lib.hid d25
  clear d0 d1 d2 d3 d4 d5 d6 d7 d8 d9 d10 d11 d12 d13 d14 d15 d16 d17 d18 d19 d20 d21 d22 d23 d24 d25
  go_enter Tryd.func7, Tryd.ntmps7
  go_wp2_with fail
  refine (Hd0.out _).mono ?_
  rintro e v1 ⟨rfl, q⟩
  have HT := HT.later q
  have Q := q
  clear q
  go_wp2_with fail
  refine (Hd1.out _).mono ?_
  rintro e v2 ⟨rfl, q⟩
  have HT := HT.later q
  have Q := Q.trans (q.mono Q.size)
  clear q
  go_wp2_with fail
  refine (Hd15.out _ HT).mono ?_
  rintro e v3 ⟨rfl, q⟩
  have HT := HT.later q
  have Q := Q.trans (q.mono Q.size)
  clear q
  go_wp2_with fail
  refine (Hd2.out _).mono ?_
  rintro e v4 ⟨rfl, q⟩
  have HT := HT.later q
  have Q := Q.trans (q.mono Q.size)
  clear q
  go_wp2_with fail
  refine (Hd3.out _).mono ?_
  rintro e v5 ⟨rfl, q⟩
  have HT := HT.later q
  have Q := Q.trans (q.mono Q.size)
  clear q
  go_wp2_with fail
  refine (Hd16.out _ HT).mono ?_
  rintro e v6 ⟨rfl, q⟩
  have HT := HT.later q
  have Q := Q.trans (q.mono Q.size)
  clear q
  go_wp2_with fail
  refine (Hd4.out _).mono ?_
  rintro e v7 ⟨rfl, q⟩
  have HT := HT.later q
  have Q := Q.trans (q.mono Q.size)
  clear q
  go_wp2_with fail
  refine (Hd5.out _).mono ?_
  rintro e v8 ⟨rfl, q⟩
  have HT := HT.later q
  have Q := Q.trans (q.mono Q.size)
  clear q
  go_wp2_with fail
  refine (Hd6.out _).mono ?_
  rintro e v9 ⟨rfl, q⟩
  have HT := HT.later q
  have Q := Q.trans (q.mono Q.size)
  clear q
  go_wp2_with fail
  refine (Hd17.out _).mono ?_
  rintro e v10 ⟨rfl, q⟩
  have HT := HT.later q
  have Q := Q.trans (q.mono Q.size)
  clear q
  go_wp2_with fail
  refine (Hd6.out _).mono ?_
  rintro e v11 ⟨rfl, q⟩
  have HT := HT.later q
  have Q := Q.trans (q.mono Q.size)
  clear q
  go_wp2_with fail
  refine (Hd7.out _).mono ?_
  rintro e v12 ⟨rfl, q⟩
  have HT := HT.later q
  have Q := Q.trans (q.mono Q.size)
  clear q
  go_wp2_with fail
  refine (Hd8.out _).mono ?_
  rintro e v13 ⟨rfl, q⟩
  have HT := HT.later q
  have Q := Q.trans (q.mono Q.size)
  clear q
  go_wp2_with fail
  refine (Hd18.out _ HT).mono ?_
  rintro e v14 ⟨rfl, q⟩
  have HT := HT.later q
  have Q := Q.trans (q.mono Q.size)
  clear q
  go_wp2_with fail
  refine (Hd0.out _).mono ?_
  rintro e v15 ⟨rfl, q⟩
  have HT := HT.later q
  have Q := Q.trans (q.mono Q.size)
  clear q
  go_wp2_with fail
  refine (Hd8.out _).mono ?_
  rintro e v16 ⟨rfl, q⟩
  have HT := HT.later q
  have Q := Q.trans (q.mono Q.size)
  clear q
  go_wp2_with fail
  refine (Hd19.out _ HT).mono ?_
  rintro e v17 ⟨rfl, q⟩
  have HT := HT.later q
  have Q := Q.trans (q.mono Q.size)
  clear q
  go_wp2_with fail
  refine (Hd9.out _).mono ?_
  rintro e v18 ⟨rfl, q⟩
  have HT := HT.later q
  have Q := Q.trans (q.mono Q.size)
  clear q
  go_wp2_with fail
  refine (Hd10.out _).mono ?_
  rintro e v19 ⟨rfl, q⟩
  have HT := HT.later q
  have Q := Q.trans (q.mono Q.size)
  clear q
  go_wp2_with fail
  refine (Hd11.out _).mono ?_
  rintro e v20 ⟨rfl, q⟩
  have HT := HT.later q
  have Q := Q.trans (q.mono Q.size)
  clear q
  go_wp2_with fail
  refine (Hd20.out _).mono ?_
  rintro e v21 ⟨rfl, q⟩
  have HT := HT.later q
  have Q := Q.trans (q.mono Q.size)
  clear q
  go_wp2_with fail
  refine (Hd12.out _).mono ?_
  rintro e v22 ⟨rfl, q⟩
  have HT := HT.later q
  have Q := Q.trans (q.mono Q.size)
  clear q
  go_wp2_with fail
  refine (Hd10.out _).mono ?_
  rintro e v23 ⟨rfl, q⟩
  have HT := HT.later q
  have Q := Q.trans (q.mono Q.size)
  clear q
  go_wp2_with fail
  refine (Hd11.out _).mono ?_
  rintro e v24 ⟨rfl, q⟩
  have HT := HT.later q
  have Q := Q.trans (q.mono Q.size)
  clear q
  go_wp2_with fail
  refine (Hd21.out _).mono ?_
  rintro e v25 ⟨rfl, q⟩
  have HT := HT.later q
  have Q := Q.trans (q.mono Q.size)
  clear q
  go_wp2_with fail
  refine (Hd13.out _).mono ?_
  rintro e v26 ⟨rfl, q⟩
  have HT := HT.later q
  have Q := Q.trans (q.mono Q.size)
  clear q
  go_wp2_with fail
  refine (Hd10.out _).mono ?_
  rintro e v27 ⟨rfl, q⟩
  have HT := HT.later q
  have Q := Q.trans (q.mono Q.size)
  clear q
  go_wp2_with fail
  refine (Hd11.out _).mono ?_
  rintro e v28 ⟨rfl, q⟩
  have HT := HT.later q
  have Q := Q.trans (q.mono Q.size)
  clear q
  go_wp2_with fail
  refine (Hd22.out _).mono ?_
  rintro e v29 ⟨rfl, q⟩
  have HT := HT.later q
  have Q := Q.trans (q.mono Q.size)
  clear q
  go_wp2_with fail
  refine (Hd14.out _).mono ?_
  rintro e v30 ⟨rfl, q⟩
  have HT := HT.later q
  have Q := Q.trans (q.mono Q.size)
  clear q
  go_wp2_with fail
  refine (Hd4.out _).mono ?_
  rintro e v31 ⟨rfl, q⟩
  have HT := HT.later q
  have Q := Q.trans (q.mono Q.size)
  clear q
  go_wp2_with fail
  refine (Hd23.out _).mono ?_
  rintro e v32 ⟨rfl, q⟩
  have HT := HT.later q
  have Q := Q.trans (q.mono Q.size)
  clear q
  go_wp2_with fail
  refine (Hd4.out _).mono ?_
  rintro e v33 ⟨rfl, q⟩
  have HT := HT.later q
  have Q := Q.trans (q.mono Q.size)
  clear q
  go_wp2_with fail
  refine (Hd24.out _).mono ?_
  rintro e v34 ⟨rfl, q⟩
  have HT := HT.later q
  have Q := Q.trans (q.mono Q.size)
  clear q
  go_wp2_with fail
  refine (Hd0.out _).mono ?_
  rintro e v35 ⟨rfl, q⟩
  have HT := HT.later q
  have Q := Q.trans (q.mono Q.size)
  clear q
  go_wp2_with fail
  refine (Hd0.out _).mono ?_
  rintro e v36 ⟨rfl, q⟩
  have HT := HT.later q
  have Q := Q.trans (q.mono Q.size)
  clear q
  go_wp2_with fail
  refine (Hd25.out _).mono ?_
  rintro e v37 ⟨rfl, q⟩
  have HT := HT.later q
  have Q := Q.trans (q.mono Q.size)
  clear q
  go_wp2
  go_ret
  exact ⟨rfl, Q⟩
end Go.Proofs.YtnlcllhjhbaigaaDoor
