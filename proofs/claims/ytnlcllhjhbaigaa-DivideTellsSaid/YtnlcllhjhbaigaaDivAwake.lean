/- What package divide answers at the numbers of the laws' first call; that call answers true. -/
import Derived.Test.YtnlcllhjhbaigaaLawK
import Derived.Test.YtnlcllhjhbaigaaDivI
import Derived.Test.YtnlcllhjhbaigaaDivL
import Derived.Test.YtnlcllhjhbaigaaRefD
namespace Go.Proofs.Ytnlcllhjhbaigaa
open Go Go.RowKit
attribute [local go_sem] Oper.semAt_some Grows wide_fn eq4

theorem c_ofm7 : Ret Try.prog 19 #[.int .i64 (-7)] (W4 18446744073709551609 18446744073709551615 18446744073709551615 18446744073709551615) := (refOf_ret (-7) (by unfold I64; omega)).of_eq rfl (wv_of ⟨by decide, by decide, by decide, by decide⟩)
theorem c_of2 : Ret Try.prog 19 #[.int .i64 2] (W4 2 0 0 0) := (refOf_ret 2 (by unfold I64; omega)).of_eq rfl (wv_of ⟨by decide, by decide, by decide, by decide⟩)
theorem c_ofm3 : Ret Try.prog 19 #[.int .i64 (-3)] (W4 18446744073709551613 18446744073709551615 18446744073709551615 18446744073709551615) := (refOf_ret (-3) (by unfold I64; omega)).of_eq rfl (wv_of ⟨by decide, by decide, by decide, by decide⟩)
theorem c_ofm1 : Ret Try.prog 19 #[.int .i64 (-1)] (W4 18446744073709551615 18446744073709551615 18446744073709551615 18446744073709551615) := (refOf_ret (-1) (by unfold I64; omega)).of_eq rfl (wv_of ⟨by decide, by decide, by decide, by decide⟩)
theorem c_of4 : Ret Try.prog 19 #[.int .i64 4] (W4 4 0 0 0) := (refOf_ret 4 (by unfold I64; omega)).of_eq rfl (wv_of ⟨by decide, by decide, by decide, by decide⟩)
theorem c_of7 : Ret Try.prog 19 #[.int .i64 7] (W4 7 0 0 0) := (refOf_ret 7 (by unfold I64; omega)).of_eq rfl (wv_of ⟨by decide, by decide, by decide, by decide⟩)
theorem c_of255 : Ret Try.prog 19 #[.int .i64 255] (W4 255 0 0 0) := (refOf_ret 255 (by unfold I64; omega)).of_eq rfl (wv_of ⟨by decide, by decide, by decide, by decide⟩)
theorem c_of17 : Ret Try.prog 19 #[.int .i64 17] (W4 17 0 0 0) := (refOf_ret 17 (by unfold I64; omega)).of_eq rfl (wv_of ⟨by decide, by decide, by decide, by decide⟩)
theorem c_of5 : Ret Try.prog 19 #[.int .i64 5] (W4 5 0 0 0) := (refOf_ret 5 (by unfold I64; omega)).of_eq rfl (wv_of ⟨by decide, by decide, by decide, by decide⟩)
theorem c_of1 : Ret Try.prog 19 #[.int .i64 1] (W4 1 0 0 0) := (refOf_ret 1 (by unfold I64; omega)).of_eq rfl (wv_of ⟨by decide, by decide, by decide, by decide⟩)
theorem c_sdiv : Ret Try.prog 9 #[W4 18446744073709551609 18446744073709551615 18446744073709551615 18446744073709551615, W4 2 0 0 0] (W4 18446744073709551613 18446744073709551615 18446744073709551615 18446744073709551615) := (sdiv_ret 115792089237316195423570985008687907853269984665640564039457584007913129639929 2 (by unfold W256; omega) (by unfold W256; omega)).of_eq (by rw [wv_of (n := 115792089237316195423570985008687907853269984665640564039457584007913129639929) (x0 := 18446744073709551609) (x1 := 18446744073709551615) (x2 := 18446744073709551615) (x3 := 18446744073709551615) ⟨by decide, by decide, by decide, by decide⟩, wv_of (n := 2) (x0 := 2) (x1 := 0) (x2 := 0) (x3 := 0) ⟨by decide, by decide, by decide, by decide⟩]) (wv_of ⟨by decide, by decide, by decide, by decide⟩)
theorem c_smod : Ret Try.prog 11 #[W4 18446744073709551609 18446744073709551615 18446744073709551615 18446744073709551615, W4 2 0 0 0] (W4 18446744073709551615 18446744073709551615 18446744073709551615 18446744073709551615) := (smod_ret 115792089237316195423570985008687907853269984665640564039457584007913129639929 2 (by unfold W256; omega) (by unfold W256; omega)).of_eq (by rw [wv_of (n := 115792089237316195423570985008687907853269984665640564039457584007913129639929) (x0 := 18446744073709551609) (x1 := 18446744073709551615) (x2 := 18446744073709551615) (x3 := 18446744073709551615) ⟨by decide, by decide, by decide, by decide⟩, wv_of (n := 2) (x0 := 2) (x1 := 0) (x2 := 0) (x3 := 0) ⟨by decide, by decide, by decide, by decide⟩]) (wv_of ⟨by decide, by decide, by decide, by decide⟩)
theorem c_mulmod : Ret Try.prog 15 #[W4 0 0 0 9223372036854775808, W4 4 0 0 0, W4 7 0 0 0] (W4 4 0 0 0) := (mulmod_ret 57896044618658097711785492504343953926634992332820282019728792003956564819968 4 7 (by unfold W256; omega) (by unfold W256; omega) (by unfold W256; omega)).of_eq (by rw [wv_of (n := 57896044618658097711785492504343953926634992332820282019728792003956564819968) (x0 := 0) (x1 := 0) (x2 := 0) (x3 := 9223372036854775808) ⟨by decide, by decide, by decide, by decide⟩, wv_of (n := 7) (x0 := 7) (x1 := 0) (x2 := 0) (x3 := 0) ⟨by decide, by decide, by decide, by decide⟩, wv_of (n := 4) (x0 := 4) (x1 := 0) (x2 := 0) (x3 := 0) ⟨by decide, by decide, by decide, by decide⟩]) (wv_of ⟨by decide, by decide, by decide, by decide⟩)
theorem c_addmod : Ret Try.prog 13 #[W4 0 0 0 9223372036854775808, W4 0 0 0 9223372036854775808, W4 7 0 0 0] (W4 2 0 0 0) := (addmod_ret 57896044618658097711785492504343953926634992332820282019728792003956564819968 57896044618658097711785492504343953926634992332820282019728792003956564819968 7 (by unfold W256; omega) (by unfold W256; omega) (by unfold W256; omega)).of_eq (by rw [wv_of (n := 57896044618658097711785492504343953926634992332820282019728792003956564819968) (x0 := 0) (x1 := 0) (x2 := 0) (x3 := 9223372036854775808) ⟨by decide, by decide, by decide, by decide⟩, wv_of (n := 7) (x0 := 7) (x1 := 0) (x2 := 0) (x3 := 0) ⟨by decide, by decide, by decide, by decide⟩]) (wv_of ⟨by decide, by decide, by decide, by decide⟩)
theorem c_exp : Ret Try.prog 17 #[W4 2 0 0 0, W4 255 0 0 0] (W4 0 0 0 9223372036854775808) := (exp_ret 2 255 (by unfold W256; omega) (by unfold W256; omega)).of_eq (by rw [wv_of (n := 255) (x0 := 255) (x1 := 0) (x2 := 0) (x3 := 0) ⟨by decide, by decide, by decide, by decide⟩, wv_of (n := 2) (x0 := 2) (x1 := 0) (x2 := 0) (x3 := 0) ⟨by decide, by decide, by decide, by decide⟩]) (wv_of ⟨by decide, by decide, by decide, by decide⟩)
theorem c_div : Ret Try.prog 5 #[W4 18446744073709551609 18446744073709551615 18446744073709551615 18446744073709551615, W4 0 0 0 0] (W4 0 0 0 0) := (div_ret 115792089237316195423570985008687907853269984665640564039457584007913129639929 0 (by unfold W256; omega) (by unfold W256; omega)).of_eq (by rw [wv_of (n := 0) (x0 := 0) (x1 := 0) (x2 := 0) (x3 := 0) ⟨by decide, by decide, by decide, by decide⟩, wv_of (n := 115792089237316195423570985008687907853269984665640564039457584007913129639929) (x0 := 18446744073709551609) (x1 := 18446744073709551615) (x2 := 18446744073709551615) (x3 := 18446744073709551615) ⟨by decide, by decide, by decide, by decide⟩]) (wv_of ⟨by decide, by decide, by decide, by decide⟩)
theorem c_mod : Ret Try.prog 7 #[W4 17 0 0 0, W4 5 0 0 0] (W4 2 0 0 0) := (mod_ret 17 5 (by unfold W256; omega) (by unfold W256; omega)).of_eq (by rw [wv_of (n := 17) (x0 := 17) (x1 := 0) (x2 := 0) (x3 := 0) ⟨by decide, by decide, by decide, by decide⟩, wv_of (n := 5) (x0 := 5) (x1 := 0) (x2 := 0) (x3 := 0) ⟨by decide, by decide, by decide, by decide⟩]) (wv_of ⟨by decide, by decide, by decide, by decide⟩)
theorem c_exp0 : Ret Try.prog 17 #[W4 0 0 0 0, W4 0 0 0 0] (W4 1 0 0 0) := (exp_ret 0 0 (by unfold W256; omega) (by unfold W256; omega)).of_eq (by rw [wv_of (n := 0) (x0 := 0) (x1 := 0) (x2 := 0) (x3 := 0) ⟨by decide, by decide, by decide, by decide⟩]) (wv_of ⟨by decide, by decide, by decide, by decide⟩)
set_option maxRecDepth 100000 in
set_option maxHeartbeats 4000000 in
theorem awake_ret   :
    Ret Try.prog 4 #[] (.bool true) := by
  intro w
  have d0 := c_ofm7
  have d1 := c_of2
  have d2 := c_ofm3
  have d3 := c_ofm1
  have d4 := c_of4
  have d5 := c_of7
  have d6 := c_of255
  have d7 := c_of17
  have d8 := c_of5
  have d9 := c_of1
  have d10 := c_sdiv
  have d11 := c_smod
  have d12 := c_mulmod
  have d13 := c_addmod
  have d14 := c_exp
  have d15 := c_div
  have d16 := c_mod
  have d17 := c_exp0
  unfold W4 at *
  have Hd0 := Lib.hid d0
  have Hd1 := Lib.hid d1
  have Hd2 := Lib.hid d2
  have Hd3 := Lib.hid d3
  have Hd4 := Lib.hid d4
  have Hd5 := Lib.hid d5
  have Hd6 := Lib.hid d6
  have Hd7 := Lib.hid d7
  have Hd8 := Lib.hid d8
  have Hd9 := Lib.hid d9
  have Hd10 := Lib.hid d10
  have Hd11 := Lib.hid d11
  have Hd12 := Lib.hid d12
  have Hd13 := Lib.hid d13
  have Hd14 := Lib.hid d14
  have Hd15 := Lib.hid d15
  have Hd16 := Lib.hid d16
  have Hd17 := Lib.hid d17
  clear d0 d1 d2 d3 d4 d5 d6 d7 d8 d9 d10 d11 d12 d13 d14 d15 d16 d17
  go_enter Try.func4, Try.ntmps4
  go_wp2_with fail
  refine (Hd0.out _).mono ?_
  rintro e v1 ⟨rfl, q⟩
  have Q := q
  clear q
  have LX := Has.new v1 24 #[.int .u64 18446744073709551609, .int .u64 18446744073709551615, .int .u64 18446744073709551615, .int .u64 18446744073709551615]
  have k2 := LX.cell 0 _ rfl
  have k3 := LX.cell 1 _ rfl
  have k4 := LX.cell 2 _ rfl
  have k5 := LX.cell 3 _ rfl
  have Q := Q.alloc Q.size (.cells #[.int .u64 18446744073709551609, .int .u64 18446744073709551615, .int .u64 18446744073709551615, .int .u64 18446744073709551615] 24)
  go_wp2_with fail
  clear k2 k3 k4 k5
  obtain ⟨W1, hW1⟩ : ∃ W1, (v1.alloc (.cells #[.int .u64 18446744073709551609, .int .u64 18446744073709551615, .int .u64 18446744073709551615, .int .u64 18446744073709551615] 24)) = W1 := ⟨_, rfl⟩
  rw [hW1] at LX Q ⊢
  clear hW1
  generalize v1.heap.size = b1 at *
  refine (Hd1.out _).mono ?_
  rintro e v6 ⟨rfl, q⟩
  have LX := LX.later q
  have Q := Q.trans (q.mono Q.size)
  clear q
  have k7 := LX.cell 0 _ rfl
  have k8 := LX.cell 1 _ rfl
  have k9 := LX.cell 2 _ rfl
  have k10 := LX.cell 3 _ rfl
  have LX := LX.alloc (.cells #[.int .u64 2, .int .u64 0, .int .u64 0, .int .u64 0] 24)
  have LY := Has.new v6 24 #[.int .u64 2, .int .u64 0, .int .u64 0, .int .u64 0]
  have k11 := LX.cell 0 _ rfl
  have k12 := LX.cell 1 _ rfl
  have k13 := LX.cell 2 _ rfl
  have k14 := LX.cell 3 _ rfl
  have k15 := LY.cell 0 _ rfl
  have k16 := LY.cell 1 _ rfl
  have k17 := LY.cell 2 _ rfl
  have k18 := LY.cell 3 _ rfl
  have LX := LX.alloc (.cells #[.int .u64 0, .int .u64 0, .int .u64 0, .int .u64 9223372036854775808] 24)
  have LY := LY.alloc (.cells #[.int .u64 0, .int .u64 0, .int .u64 0, .int .u64 9223372036854775808] 24)
  have LZ := Has.new (v6.alloc (.cells #[.int .u64 2, .int .u64 0, .int .u64 0, .int .u64 0] 24)) 24 #[.int .u64 0, .int .u64 0, .int .u64 0, .int .u64 9223372036854775808]
  simp only [World.size_alloc] at LZ
  have k19 := LX.cell 0 _ rfl
  have k20 := LX.cell 1 _ rfl
  have k21 := LX.cell 2 _ rfl
  have k22 := LX.cell 3 _ rfl
  have k23 := LY.cell 0 _ rfl
  have k24 := LY.cell 1 _ rfl
  have k25 := LY.cell 2 _ rfl
  have k26 := LY.cell 3 _ rfl
  have k27 := LZ.cell 0 _ rfl
  have k28 := LZ.cell 1 _ rfl
  have k29 := LZ.cell 2 _ rfl
  have k30 := LZ.cell 3 _ rfl
  have Q := Q.alloc Q.size (.cells #[.int .u64 2, .int .u64 0, .int .u64 0, .int .u64 0] 24)
  have Q := Q.alloc Q.size (.cells #[.int .u64 0, .int .u64 0, .int .u64 0, .int .u64 9223372036854775808] 24)
  go_wp2_with fail
  clear k7 k8 k9 k10 k11 k12 k13 k14 k15 k16 k17 k18 k19 k20 k21 k22 k23 k24 k25 k26 k27 k28 k29 k30
  obtain ⟨W2, hW2⟩ : ∃ W2, ((v6.alloc (.cells #[.int .u64 2, .int .u64 0, .int .u64 0, .int .u64 0] 24)).alloc (.cells #[.int .u64 0, .int .u64 0, .int .u64 0, .int .u64 9223372036854775808] 24)) = W2 := ⟨_, rfl⟩
  rw [hW2] at LX LY LZ Q ⊢
  clear hW2
  generalize v6.heap.size = b2 at *
  have k31 : ∀ x : Ext W2, x.w.cell? ⟨b1, 0, none⟩ = some (.int .u64 18446744073709551609) := fun x => (LX.later x.below).cell 0 _ rfl
  have k32 : ∀ x : Ext W2, x.w.cell? ⟨b1, 1, none⟩ = some (.int .u64 18446744073709551615) := fun x => (LX.later x.below).cell 1 _ rfl
  have k33 : ∀ x : Ext W2, x.w.cell? ⟨b1, 2, none⟩ = some (.int .u64 18446744073709551615) := fun x => (LX.later x.below).cell 2 _ rfl
  have k34 : ∀ x : Ext W2, x.w.cell? ⟨b1, 3, none⟩ = some (.int .u64 18446744073709551615) := fun x => (LX.later x.below).cell 3 _ rfl
  have k35 : ∀ x : Ext W2, x.w.cell? ⟨b2, 0, none⟩ = some (.int .u64 2) := fun x => (LY.later x.below).cell 0 _ rfl
  have k36 : ∀ x : Ext W2, x.w.cell? ⟨b2, 1, none⟩ = some (.int .u64 0) := fun x => (LY.later x.below).cell 1 _ rfl
  have k37 : ∀ x : Ext W2, x.w.cell? ⟨b2, 2, none⟩ = some (.int .u64 0) := fun x => (LY.later x.below).cell 2 _ rfl
  have k38 : ∀ x : Ext W2, x.w.cell? ⟨b2, 3, none⟩ = some (.int .u64 0) := fun x => (LY.later x.below).cell 3 _ rfl
  have k39 : ∀ x : Ext W2, x.w.cell? ⟨b2 + 1, 0, none⟩ = some (.int .u64 0) := fun x => (LZ.later x.below).cell 0 _ rfl
  have k40 : ∀ x : Ext W2, x.w.cell? ⟨b2 + 1, 1, none⟩ = some (.int .u64 0) := fun x => (LZ.later x.below).cell 1 _ rfl
  have k41 : ∀ x : Ext W2, x.w.cell? ⟨b2 + 1, 2, none⟩ = some (.int .u64 0) := fun x => (LZ.later x.below).cell 2 _ rfl
  have k42 : ∀ x : Ext W2, x.w.cell? ⟨b2 + 1, 3, none⟩ = some (.int .u64 9223372036854775808) := fun x => (LZ.later x.below).cell 3 _ rfl
  clear LX LY LZ
  have HQ := Lib.hid Q
  clear Q
  try simp only [List.append]
  refine wp_region_quick (C := Grows W2) (by kernel_rfl) (by kernel_rfl) (by kernel_rfl) (grows_refl W2) ?_
  repeat (go_big_quiet_step (first | (with_reducible exact Ret.at Hd0.out _) | (with_reducible exact Ret.at Hd1.out _) | (with_reducible exact Ret.at Hd2.out _) | (with_reducible exact Ret.at Hd3.out _) | (with_reducible exact Ret.at Hd4.out _) | (with_reducible exact Ret.at Hd5.out _) | (with_reducible exact Ret.at Hd6.out _) | (with_reducible exact Ret.at Hd7.out _) | (with_reducible exact Ret.at Hd8.out _) | (with_reducible exact Ret.at Hd9.out _) | (with_reducible exact Ret.at Hd10.out _) | (with_reducible exact Ret.at Hd11.out _) | (with_reducible exact Ret.at Hd12.out _) | (with_reducible exact Ret.at Hd13.out _) | (with_reducible exact Ret.at Hd14.out _) | (with_reducible exact Ret.at Hd15.out _) | (with_reducible exact Ret.at Hd16.out _) | (with_reducible exact Ret.at Hd17.out _)))
  refine wpQuiet_nil ?_
  rintro _ ⟨x, rfl⟩
  go_wp2
  go_ret
  exact ⟨rfl, HQ.out.trans (x.below.mono HQ.out.size)⟩
end Go.Proofs.Ytnlcllhjhbaigaa
