/- The reference says the same of quotients, sums, products and powers: the walk. -/
import Derived.Test.YtnlcllhjhbaigaaDivAwake
namespace Go.Proofs.Ytnlcllhjhbaigaa
open Go Go.RowKit
attribute [local go_sem] Oper.semAt_some Grows wide_fn eq4

set_option maxRecDepth 100000 in
set_option maxHeartbeats 16000000 in
theorem tells_walk (zA zB zN zDiv0 zMod0 zSdiv0 zSmod0 zDiv1 zMod1 zSdiv1 zSmod1 zDiv2 zMod2 zSdiv2 zSmod2 zDiv3 zMod3 zSdiv3 zSmod3 zOu zOv zOx zOy : Nat → Int) (r s : Int) (h5 : (zB 1).tmod 5 = r) (h3 : (zB 0).tmod 300 = s) (p00 : Ret Try.prog 5 #[.agg #[.int .u64 (zA 0), .int .u64 (zA 1), .int .u64 (zA 2), .int .u64 (zA 3)], .agg #[.int .u64 (zB 0), .int .u64 (zB 1), .int .u64 (zB 2), .int .u64 (zB 3)]] (.agg #[.int .u64 (zDiv0 0), .int .u64 (zDiv0 1), .int .u64 (zDiv0 2), .int .u64 (zDiv0 3)])) (q00 : Ret Try.prog 6 #[.agg #[.int .u64 (zA 0), .int .u64 (zA 1), .int .u64 (zA 2), .int .u64 (zA 3)], .agg #[.int .u64 (zB 0), .int .u64 (zB 1), .int .u64 (zB 2), .int .u64 (zB 3)]] (.agg #[.int .u64 (zDiv0 0), .int .u64 (zDiv0 1), .int .u64 (zDiv0 2), .int .u64 (zDiv0 3)])) (p01 : Ret Try.prog 7 #[.agg #[.int .u64 (zA 0), .int .u64 (zA 1), .int .u64 (zA 2), .int .u64 (zA 3)], .agg #[.int .u64 (zB 0), .int .u64 (zB 1), .int .u64 (zB 2), .int .u64 (zB 3)]] (.agg #[.int .u64 (zMod0 0), .int .u64 (zMod0 1), .int .u64 (zMod0 2), .int .u64 (zMod0 3)])) (q01 : Ret Try.prog 8 #[.agg #[.int .u64 (zA 0), .int .u64 (zA 1), .int .u64 (zA 2), .int .u64 (zA 3)], .agg #[.int .u64 (zB 0), .int .u64 (zB 1), .int .u64 (zB 2), .int .u64 (zB 3)]] (.agg #[.int .u64 (zMod0 0), .int .u64 (zMod0 1), .int .u64 (zMod0 2), .int .u64 (zMod0 3)])) (p02 : Ret Try.prog 9 #[.agg #[.int .u64 (zA 0), .int .u64 (zA 1), .int .u64 (zA 2), .int .u64 (zA 3)], .agg #[.int .u64 (zB 0), .int .u64 (zB 1), .int .u64 (zB 2), .int .u64 (zB 3)]] (.agg #[.int .u64 (zSdiv0 0), .int .u64 (zSdiv0 1), .int .u64 (zSdiv0 2), .int .u64 (zSdiv0 3)])) (q02 : Ret Try.prog 10 #[.agg #[.int .u64 (zA 0), .int .u64 (zA 1), .int .u64 (zA 2), .int .u64 (zA 3)], .agg #[.int .u64 (zB 0), .int .u64 (zB 1), .int .u64 (zB 2), .int .u64 (zB 3)]] (.agg #[.int .u64 (zSdiv0 0), .int .u64 (zSdiv0 1), .int .u64 (zSdiv0 2), .int .u64 (zSdiv0 3)])) (p03 : Ret Try.prog 11 #[.agg #[.int .u64 (zA 0), .int .u64 (zA 1), .int .u64 (zA 2), .int .u64 (zA 3)], .agg #[.int .u64 (zB 0), .int .u64 (zB 1), .int .u64 (zB 2), .int .u64 (zB 3)]] (.agg #[.int .u64 (zSmod0 0), .int .u64 (zSmod0 1), .int .u64 (zSmod0 2), .int .u64 (zSmod0 3)])) (q03 : Ret Try.prog 12 #[.agg #[.int .u64 (zA 0), .int .u64 (zA 1), .int .u64 (zA 2), .int .u64 (zA 3)], .agg #[.int .u64 (zB 0), .int .u64 (zB 1), .int .u64 (zB 2), .int .u64 (zB 3)]] (.agg #[.int .u64 (zSmod0 0), .int .u64 (zSmod0 1), .int .u64 (zSmod0 2), .int .u64 (zSmod0 3)])) (p10 : Ret Try.prog 5 #[.agg #[.int .u64 (zB 0), .int .u64 (zB 1), .int .u64 (zB 2), .int .u64 (zB 3)], .agg #[.int .u64 (zN 0), .int .u64 (zN 1), .int .u64 (zN 2), .int .u64 (zN 3)]] (.agg #[.int .u64 (zDiv1 0), .int .u64 (zDiv1 1), .int .u64 (zDiv1 2), .int .u64 (zDiv1 3)])) (q10 : Ret Try.prog 6 #[.agg #[.int .u64 (zB 0), .int .u64 (zB 1), .int .u64 (zB 2), .int .u64 (zB 3)], .agg #[.int .u64 (zN 0), .int .u64 (zN 1), .int .u64 (zN 2), .int .u64 (zN 3)]] (.agg #[.int .u64 (zDiv1 0), .int .u64 (zDiv1 1), .int .u64 (zDiv1 2), .int .u64 (zDiv1 3)])) (p11 : Ret Try.prog 7 #[.agg #[.int .u64 (zB 0), .int .u64 (zB 1), .int .u64 (zB 2), .int .u64 (zB 3)], .agg #[.int .u64 (zN 0), .int .u64 (zN 1), .int .u64 (zN 2), .int .u64 (zN 3)]] (.agg #[.int .u64 (zMod1 0), .int .u64 (zMod1 1), .int .u64 (zMod1 2), .int .u64 (zMod1 3)])) (q11 : Ret Try.prog 8 #[.agg #[.int .u64 (zB 0), .int .u64 (zB 1), .int .u64 (zB 2), .int .u64 (zB 3)], .agg #[.int .u64 (zN 0), .int .u64 (zN 1), .int .u64 (zN 2), .int .u64 (zN 3)]] (.agg #[.int .u64 (zMod1 0), .int .u64 (zMod1 1), .int .u64 (zMod1 2), .int .u64 (zMod1 3)])) (p12 : Ret Try.prog 9 #[.agg #[.int .u64 (zB 0), .int .u64 (zB 1), .int .u64 (zB 2), .int .u64 (zB 3)], .agg #[.int .u64 (zN 0), .int .u64 (zN 1), .int .u64 (zN 2), .int .u64 (zN 3)]] (.agg #[.int .u64 (zSdiv1 0), .int .u64 (zSdiv1 1), .int .u64 (zSdiv1 2), .int .u64 (zSdiv1 3)])) (q12 : Ret Try.prog 10 #[.agg #[.int .u64 (zB 0), .int .u64 (zB 1), .int .u64 (zB 2), .int .u64 (zB 3)], .agg #[.int .u64 (zN 0), .int .u64 (zN 1), .int .u64 (zN 2), .int .u64 (zN 3)]] (.agg #[.int .u64 (zSdiv1 0), .int .u64 (zSdiv1 1), .int .u64 (zSdiv1 2), .int .u64 (zSdiv1 3)])) (p13 : Ret Try.prog 11 #[.agg #[.int .u64 (zB 0), .int .u64 (zB 1), .int .u64 (zB 2), .int .u64 (zB 3)], .agg #[.int .u64 (zN 0), .int .u64 (zN 1), .int .u64 (zN 2), .int .u64 (zN 3)]] (.agg #[.int .u64 (zSmod1 0), .int .u64 (zSmod1 1), .int .u64 (zSmod1 2), .int .u64 (zSmod1 3)])) (q13 : Ret Try.prog 12 #[.agg #[.int .u64 (zB 0), .int .u64 (zB 1), .int .u64 (zB 2), .int .u64 (zB 3)], .agg #[.int .u64 (zN 0), .int .u64 (zN 1), .int .u64 (zN 2), .int .u64 (zN 3)]] (.agg #[.int .u64 (zSmod1 0), .int .u64 (zSmod1 1), .int .u64 (zSmod1 2), .int .u64 (zSmod1 3)])) (p20 : Ret Try.prog 5 #[.agg #[.int .u64 (zA 0), .int .u64 (zA 1), .int .u64 (zA 2), .int .u64 (zA 3)], .agg #[.int .u64 (zB 0), .int .u64 0, .int .u64 0, .int .u64 0]] (.agg #[.int .u64 (zDiv2 0), .int .u64 (zDiv2 1), .int .u64 (zDiv2 2), .int .u64 (zDiv2 3)])) (q20 : Ret Try.prog 6 #[.agg #[.int .u64 (zA 0), .int .u64 (zA 1), .int .u64 (zA 2), .int .u64 (zA 3)], .agg #[.int .u64 (zB 0), .int .u64 0, .int .u64 0, .int .u64 0]] (.agg #[.int .u64 (zDiv2 0), .int .u64 (zDiv2 1), .int .u64 (zDiv2 2), .int .u64 (zDiv2 3)])) (p21 : Ret Try.prog 7 #[.agg #[.int .u64 (zA 0), .int .u64 (zA 1), .int .u64 (zA 2), .int .u64 (zA 3)], .agg #[.int .u64 (zB 0), .int .u64 0, .int .u64 0, .int .u64 0]] (.agg #[.int .u64 (zMod2 0), .int .u64 (zMod2 1), .int .u64 (zMod2 2), .int .u64 (zMod2 3)])) (q21 : Ret Try.prog 8 #[.agg #[.int .u64 (zA 0), .int .u64 (zA 1), .int .u64 (zA 2), .int .u64 (zA 3)], .agg #[.int .u64 (zB 0), .int .u64 0, .int .u64 0, .int .u64 0]] (.agg #[.int .u64 (zMod2 0), .int .u64 (zMod2 1), .int .u64 (zMod2 2), .int .u64 (zMod2 3)])) (p22 : Ret Try.prog 9 #[.agg #[.int .u64 (zA 0), .int .u64 (zA 1), .int .u64 (zA 2), .int .u64 (zA 3)], .agg #[.int .u64 (zB 0), .int .u64 0, .int .u64 0, .int .u64 0]] (.agg #[.int .u64 (zSdiv2 0), .int .u64 (zSdiv2 1), .int .u64 (zSdiv2 2), .int .u64 (zSdiv2 3)])) (q22 : Ret Try.prog 10 #[.agg #[.int .u64 (zA 0), .int .u64 (zA 1), .int .u64 (zA 2), .int .u64 (zA 3)], .agg #[.int .u64 (zB 0), .int .u64 0, .int .u64 0, .int .u64 0]] (.agg #[.int .u64 (zSdiv2 0), .int .u64 (zSdiv2 1), .int .u64 (zSdiv2 2), .int .u64 (zSdiv2 3)])) (p23 : Ret Try.prog 11 #[.agg #[.int .u64 (zA 0), .int .u64 (zA 1), .int .u64 (zA 2), .int .u64 (zA 3)], .agg #[.int .u64 (zB 0), .int .u64 0, .int .u64 0, .int .u64 0]] (.agg #[.int .u64 (zSmod2 0), .int .u64 (zSmod2 1), .int .u64 (zSmod2 2), .int .u64 (zSmod2 3)])) (q23 : Ret Try.prog 12 #[.agg #[.int .u64 (zA 0), .int .u64 (zA 1), .int .u64 (zA 2), .int .u64 (zA 3)], .agg #[.int .u64 (zB 0), .int .u64 0, .int .u64 0, .int .u64 0]] (.agg #[.int .u64 (zSmod2 0), .int .u64 (zSmod2 1), .int .u64 (zSmod2 2), .int .u64 (zSmod2 3)])) (p30 : Ret Try.prog 5 #[.agg #[.int .u64 (zA 0), .int .u64 (zA 1), .int .u64 (zA 2), .int .u64 (zA 3)], .agg #[.int .u64 r, .int .u64 0, .int .u64 0, .int .u64 0]] (.agg #[.int .u64 (zDiv3 0), .int .u64 (zDiv3 1), .int .u64 (zDiv3 2), .int .u64 (zDiv3 3)])) (q30 : Ret Try.prog 6 #[.agg #[.int .u64 (zA 0), .int .u64 (zA 1), .int .u64 (zA 2), .int .u64 (zA 3)], .agg #[.int .u64 r, .int .u64 0, .int .u64 0, .int .u64 0]] (.agg #[.int .u64 (zDiv3 0), .int .u64 (zDiv3 1), .int .u64 (zDiv3 2), .int .u64 (zDiv3 3)])) (p31 : Ret Try.prog 7 #[.agg #[.int .u64 (zA 0), .int .u64 (zA 1), .int .u64 (zA 2), .int .u64 (zA 3)], .agg #[.int .u64 r, .int .u64 0, .int .u64 0, .int .u64 0]] (.agg #[.int .u64 (zMod3 0), .int .u64 (zMod3 1), .int .u64 (zMod3 2), .int .u64 (zMod3 3)])) (q31 : Ret Try.prog 8 #[.agg #[.int .u64 (zA 0), .int .u64 (zA 1), .int .u64 (zA 2), .int .u64 (zA 3)], .agg #[.int .u64 r, .int .u64 0, .int .u64 0, .int .u64 0]] (.agg #[.int .u64 (zMod3 0), .int .u64 (zMod3 1), .int .u64 (zMod3 2), .int .u64 (zMod3 3)])) (p32 : Ret Try.prog 9 #[.agg #[.int .u64 (zA 0), .int .u64 (zA 1), .int .u64 (zA 2), .int .u64 (zA 3)], .agg #[.int .u64 r, .int .u64 0, .int .u64 0, .int .u64 0]] (.agg #[.int .u64 (zSdiv3 0), .int .u64 (zSdiv3 1), .int .u64 (zSdiv3 2), .int .u64 (zSdiv3 3)])) (q32 : Ret Try.prog 10 #[.agg #[.int .u64 (zA 0), .int .u64 (zA 1), .int .u64 (zA 2), .int .u64 (zA 3)], .agg #[.int .u64 r, .int .u64 0, .int .u64 0, .int .u64 0]] (.agg #[.int .u64 (zSdiv3 0), .int .u64 (zSdiv3 1), .int .u64 (zSdiv3 2), .int .u64 (zSdiv3 3)])) (p33 : Ret Try.prog 11 #[.agg #[.int .u64 (zA 0), .int .u64 (zA 1), .int .u64 (zA 2), .int .u64 (zA 3)], .agg #[.int .u64 r, .int .u64 0, .int .u64 0, .int .u64 0]] (.agg #[.int .u64 (zSmod3 0), .int .u64 (zSmod3 1), .int .u64 (zSmod3 2), .int .u64 (zSmod3 3)])) (q33 : Ret Try.prog 12 #[.agg #[.int .u64 (zA 0), .int .u64 (zA 1), .int .u64 (zA 2), .int .u64 (zA 3)], .agg #[.int .u64 r, .int .u64 0, .int .u64 0, .int .u64 0]] (.agg #[.int .u64 (zSmod3 0), .int .u64 (zSmod3 1), .int .u64 (zSmod3 2), .int .u64 (zSmod3 3)])) (pu : Ret Try.prog 13 #[.agg #[.int .u64 (zA 0), .int .u64 (zA 1), .int .u64 (zA 2), .int .u64 (zA 3)], .agg #[.int .u64 (zB 0), .int .u64 (zB 1), .int .u64 (zB 2), .int .u64 (zB 3)], .agg #[.int .u64 (zN 0), .int .u64 (zN 1), .int .u64 (zN 2), .int .u64 (zN 3)]] (.agg #[.int .u64 (zOu 0), .int .u64 (zOu 1), .int .u64 (zOu 2), .int .u64 (zOu 3)])) (qu : Ret Try.prog 14 #[.agg #[.int .u64 (zA 0), .int .u64 (zA 1), .int .u64 (zA 2), .int .u64 (zA 3)], .agg #[.int .u64 (zB 0), .int .u64 (zB 1), .int .u64 (zB 2), .int .u64 (zB 3)], .agg #[.int .u64 (zN 0), .int .u64 (zN 1), .int .u64 (zN 2), .int .u64 (zN 3)]] (.agg #[.int .u64 (zOu 0), .int .u64 (zOu 1), .int .u64 (zOu 2), .int .u64 (zOu 3)])) (pv : Ret Try.prog 15 #[.agg #[.int .u64 (zA 0), .int .u64 (zA 1), .int .u64 (zA 2), .int .u64 (zA 3)], .agg #[.int .u64 (zB 0), .int .u64 (zB 1), .int .u64 (zB 2), .int .u64 (zB 3)], .agg #[.int .u64 (zN 0), .int .u64 (zN 1), .int .u64 (zN 2), .int .u64 (zN 3)]] (.agg #[.int .u64 (zOv 0), .int .u64 (zOv 1), .int .u64 (zOv 2), .int .u64 (zOv 3)])) (qv : Ret Try.prog 16 #[.agg #[.int .u64 (zA 0), .int .u64 (zA 1), .int .u64 (zA 2), .int .u64 (zA 3)], .agg #[.int .u64 (zB 0), .int .u64 (zB 1), .int .u64 (zB 2), .int .u64 (zB 3)], .agg #[.int .u64 (zN 0), .int .u64 (zN 1), .int .u64 (zN 2), .int .u64 (zN 3)]] (.agg #[.int .u64 (zOv 0), .int .u64 (zOv 1), .int .u64 (zOv 2), .int .u64 (zOv 3)])) (px : Ret Try.prog 17 #[.agg #[.int .u64 (zA 0), .int .u64 (zA 1), .int .u64 (zA 2), .int .u64 (zA 3)], .agg #[.int .u64 (zB 0), .int .u64 (zB 1), .int .u64 (zB 2), .int .u64 (zB 3)]] (.agg #[.int .u64 (zOx 0), .int .u64 (zOx 1), .int .u64 (zOx 2), .int .u64 (zOx 3)])) (qx : Ret Try.prog 18 #[.agg #[.int .u64 (zA 0), .int .u64 (zA 1), .int .u64 (zA 2), .int .u64 (zA 3)], .agg #[.int .u64 (zB 0), .int .u64 (zB 1), .int .u64 (zB 2), .int .u64 (zB 3)]] (.agg #[.int .u64 (zOx 0), .int .u64 (zOx 1), .int .u64 (zOx 2), .int .u64 (zOx 3)])) (py : Ret Try.prog 17 #[.agg #[.int .u64 (zA 0), .int .u64 (zA 1), .int .u64 (zA 2), .int .u64 (zA 3)], .agg #[.int .u64 s, .int .u64 0, .int .u64 0, .int .u64 0]] (.agg #[.int .u64 (zOy 0), .int .u64 (zOy 1), .int .u64 (zOy 2), .int .u64 (zOy 3)])) (qy : Ret Try.prog 18 #[.agg #[.int .u64 (zA 0), .int .u64 (zA 1), .int .u64 (zA 2), .int .u64 (zA 3)], .agg #[.int .u64 s, .int .u64 0, .int .u64 0, .int .u64 0]] (.agg #[.int .u64 (zOy 0), .int .u64 (zOy 1), .int .u64 (zOy 2), .int .u64 (zOy 3)])) :
    Ret Try.prog 3 #[.agg #[.int .u64 (zA 0), .int .u64 (zA 1), .int .u64 (zA 2), .int .u64 (zA 3)], .agg #[.int .u64 (zB 0), .int .u64 (zB 1), .int .u64 (zB 2), .int .u64 (zB 3)], .agg #[.int .u64 (zN 0), .int .u64 (zN 1), .int .u64 (zN 2), .int .u64 (zN 3)]] (.bool true) := by
  intro w
  have k0 := awake_ret
  have Hp00 := Lib.hid p00
  have Hq00 := Lib.hid q00
  have Hp01 := Lib.hid p01
  have Hq01 := Lib.hid q01
  have Hp02 := Lib.hid p02
  have Hq02 := Lib.hid q02
  have Hp03 := Lib.hid p03
  have Hq03 := Lib.hid q03
  have Hp10 := Lib.hid p10
  have Hq10 := Lib.hid q10
  have Hp11 := Lib.hid p11
  have Hq11 := Lib.hid q11
  have Hp12 := Lib.hid p12
  have Hq12 := Lib.hid q12
  have Hp13 := Lib.hid p13
  have Hq13 := Lib.hid q13
  have Hp20 := Lib.hid p20
  have Hq20 := Lib.hid q20
  have Hp21 := Lib.hid p21
  have Hq21 := Lib.hid q21
  have Hp22 := Lib.hid p22
  have Hq22 := Lib.hid q22
  have Hp23 := Lib.hid p23
  have Hq23 := Lib.hid q23
  have Hp30 := Lib.hid p30
  have Hq30 := Lib.hid q30
  have Hp31 := Lib.hid p31
  have Hq31 := Lib.hid q31
  have Hp32 := Lib.hid p32
  have Hq32 := Lib.hid q32
  have Hp33 := Lib.hid p33
  have Hq33 := Lib.hid q33
  have Hpu := Lib.hid pu
  have Hqu := Lib.hid qu
  have Hpv := Lib.hid pv
  have Hqv := Lib.hid qv
  have Hpx := Lib.hid px
  have Hqx := Lib.hid qx
  have Hpy := Lib.hid py
  have Hqy := Lib.hid qy
  have Hk0 := Lib.hid k0
  clear p00 q00 p01 q01 p02 q02 p03 q03 p10 q10 p11 q11 p12 q12 p13 q13 p20 q20 p21 q21 p22 q22 p23 q23 p30 q30 p31 q31 p32 q32 p33 q33 pu qu pv qv px qx py qy k0
  go_enter Try.func3, Try.ntmps3
  have LA := Has.new w 24 #[.int .u64 (zA 0), .int .u64 (zA 1), .int .u64 (zA 2), .int .u64 (zA 3)]
  have k1 := LA.cell 0 _ rfl
  have k2 := LA.cell 1 _ rfl
  have k3 := LA.cell 2 _ rfl
  have k4 := LA.cell 3 _ rfl
  have LA := LA.alloc (.cells #[.int .u64 (zB 0), .int .u64 (zB 1), .int .u64 (zB 2), .int .u64 (zB 3)] 24)
  have LB := Has.new (w.alloc (.cells #[.int .u64 (zA 0), .int .u64 (zA 1), .int .u64 (zA 2), .int .u64 (zA 3)] 24)) 24 #[.int .u64 (zB 0), .int .u64 (zB 1), .int .u64 (zB 2), .int .u64 (zB 3)]
  simp only [World.size_alloc] at LB
  have k5 := LA.cell 0 _ rfl
  have k6 := LA.cell 1 _ rfl
  have k7 := LA.cell 2 _ rfl
  have k8 := LA.cell 3 _ rfl
  have k9 := LB.cell 0 _ rfl
  have k10 := LB.cell 1 _ rfl
  have k11 := LB.cell 2 _ rfl
  have k12 := LB.cell 3 _ rfl
  have LA := LA.alloc (.cells #[.int .u64 (zN 0), .int .u64 (zN 1), .int .u64 (zN 2), .int .u64 (zN 3)] 24)
  have LB := LB.alloc (.cells #[.int .u64 (zN 0), .int .u64 (zN 1), .int .u64 (zN 2), .int .u64 (zN 3)] 24)
  have LN := Has.new ((w.alloc (.cells #[.int .u64 (zA 0), .int .u64 (zA 1), .int .u64 (zA 2), .int .u64 (zA 3)] 24)).alloc (.cells #[.int .u64 (zB 0), .int .u64 (zB 1), .int .u64 (zB 2), .int .u64 (zB 3)] 24)) 24 #[.int .u64 (zN 0), .int .u64 (zN 1), .int .u64 (zN 2), .int .u64 (zN 3)]
  simp only [World.size_alloc] at LN
  have k13 := LA.cell 0 _ rfl
  have k14 := LA.cell 1 _ rfl
  have k15 := LA.cell 2 _ rfl
  have k16 := LA.cell 3 _ rfl
  have k17 := LB.cell 0 _ rfl
  have k18 := LB.cell 1 _ rfl
  have k19 := LB.cell 2 _ rfl
  have k20 := LB.cell 3 _ rfl
  have k21 := LN.cell 0 _ rfl
  have k22 := LN.cell 1 _ rfl
  have k23 := LN.cell 2 _ rfl
  have k24 := LN.cell 3 _ rfl
  have Q := (Below.refl w.heap.size w)
  have Q := Q.alloc Q.size (.cells #[.int .u64 (zA 0), .int .u64 (zA 1), .int .u64 (zA 2), .int .u64 (zA 3)] 24)
  have Q := Q.alloc Q.size (.cells #[.int .u64 (zB 0), .int .u64 (zB 1), .int .u64 (zB 2), .int .u64 (zB 3)] 24)
  have Q := Q.alloc Q.size (.cells #[.int .u64 (zN 0), .int .u64 (zN 1), .int .u64 (zN 2), .int .u64 (zN 3)] 24)
  go_wp2_with fail
  clear k1 k2 k3 k4 k5 k6 k7 k8 k9 k10 k11 k12 k13 k14 k15 k16 k17 k18 k19 k20 k21 k22 k23 k24
  obtain ⟨W1, hW1⟩ : ∃ W1, (((w.alloc (.cells #[.int .u64 (zA 0), .int .u64 (zA 1), .int .u64 (zA 2), .int .u64 (zA 3)] 24)).alloc (.cells #[.int .u64 (zB 0), .int .u64 (zB 1), .int .u64 (zB 2), .int .u64 (zB 3)] 24)).alloc (.cells #[.int .u64 (zN 0), .int .u64 (zN 1), .int .u64 (zN 2), .int .u64 (zN 3)] 24)) = W1 := ⟨_, rfl⟩
  rw [hW1] at LA LB LN Q ⊢
  clear hW1
  refine (Hk0.out _).mono ?_
  rintro e v25 ⟨rfl, q⟩
  have LA := LA.later q
  have LB := LB.later q
  have LN := LN.later q
  have Q := Q.trans (q.mono Q.size)
  clear q
  have k26 := LA.cell 0 _ rfl
  have k27 := LA.cell 1 _ rfl
  have k28 := LA.cell 2 _ rfl
  have k29 := LA.cell 3 _ rfl
  have k30 := LB.cell 0 _ rfl
  have k31 := LB.cell 1 _ rfl
  have k32 := LB.cell 2 _ rfl
  have k33 := LB.cell 3 _ rfl
  have k34 := LN.cell 0 _ rfl
  have k35 := LN.cell 1 _ rfl
  have k36 := LN.cell 2 _ rfl
  have k37 := LN.cell 3 _ rfl
  have LA := LA.alloc (.cells #[.int .u64 (zA 0), .int .u64 (zA 1), .int .u64 (zA 2), .int .u64 (zA 3), .int .u64 (zB 0), .int .u64 (zB 1), .int .u64 (zB 2), .int .u64 (zB 3), .int .u64 (zB 0), .int .u64 (zB 1), .int .u64 (zB 2), .int .u64 (zB 3), .int .u64 (zN 0), .int .u64 (zN 1), .int .u64 (zN 2), .int .u64 (zN 3), .int .u64 (zA 0), .int .u64 (zA 1), .int .u64 (zA 2), .int .u64 (zA 3), .int .u64 (zB 0), .int .u64 0, .int .u64 0, .int .u64 0, .int .u64 (zA 0), .int .u64 (zA 1), .int .u64 (zA 2), .int .u64 (zA 3), .int .u64 r, .int .u64 0, .int .u64 0, .int .u64 0] 26)
  have LB := LB.alloc (.cells #[.int .u64 (zA 0), .int .u64 (zA 1), .int .u64 (zA 2), .int .u64 (zA 3), .int .u64 (zB 0), .int .u64 (zB 1), .int .u64 (zB 2), .int .u64 (zB 3), .int .u64 (zB 0), .int .u64 (zB 1), .int .u64 (zB 2), .int .u64 (zB 3), .int .u64 (zN 0), .int .u64 (zN 1), .int .u64 (zN 2), .int .u64 (zN 3), .int .u64 (zA 0), .int .u64 (zA 1), .int .u64 (zA 2), .int .u64 (zA 3), .int .u64 (zB 0), .int .u64 0, .int .u64 0, .int .u64 0, .int .u64 (zA 0), .int .u64 (zA 1), .int .u64 (zA 2), .int .u64 (zA 3), .int .u64 r, .int .u64 0, .int .u64 0, .int .u64 0] 26)
  have LN := LN.alloc (.cells #[.int .u64 (zA 0), .int .u64 (zA 1), .int .u64 (zA 2), .int .u64 (zA 3), .int .u64 (zB 0), .int .u64 (zB 1), .int .u64 (zB 2), .int .u64 (zB 3), .int .u64 (zB 0), .int .u64 (zB 1), .int .u64 (zB 2), .int .u64 (zB 3), .int .u64 (zN 0), .int .u64 (zN 1), .int .u64 (zN 2), .int .u64 (zN 3), .int .u64 (zA 0), .int .u64 (zA 1), .int .u64 (zA 2), .int .u64 (zA 3), .int .u64 (zB 0), .int .u64 0, .int .u64 0, .int .u64 0, .int .u64 (zA 0), .int .u64 (zA 1), .int .u64 (zA 2), .int .u64 (zA 3), .int .u64 r, .int .u64 0, .int .u64 0, .int .u64 0] 26)
  have LS := Has.new v25 26 #[.int .u64 (zA 0), .int .u64 (zA 1), .int .u64 (zA 2), .int .u64 (zA 3), .int .u64 (zB 0), .int .u64 (zB 1), .int .u64 (zB 2), .int .u64 (zB 3), .int .u64 (zB 0), .int .u64 (zB 1), .int .u64 (zB 2), .int .u64 (zB 3), .int .u64 (zN 0), .int .u64 (zN 1), .int .u64 (zN 2), .int .u64 (zN 3), .int .u64 (zA 0), .int .u64 (zA 1), .int .u64 (zA 2), .int .u64 (zA 3), .int .u64 (zB 0), .int .u64 0, .int .u64 0, .int .u64 0, .int .u64 (zA 0), .int .u64 (zA 1), .int .u64 (zA 2), .int .u64 (zA 3), .int .u64 r, .int .u64 0, .int .u64 0, .int .u64 0]
  have k38 := LA.cell 0 _ rfl
  have k39 := LA.cell 1 _ rfl
  have k40 := LA.cell 2 _ rfl
  have k41 := LA.cell 3 _ rfl
  have k42 := LB.cell 0 _ rfl
  have k43 := LB.cell 1 _ rfl
  have k44 := LB.cell 2 _ rfl
  have k45 := LB.cell 3 _ rfl
  have k46 := LN.cell 0 _ rfl
  have k47 := LN.cell 1 _ rfl
  have k48 := LN.cell 2 _ rfl
  have k49 := LN.cell 3 _ rfl
  have k50 := LS.cell 0 _ rfl
  have k51 := LS.cell 1 _ rfl
  have k52 := LS.cell 2 _ rfl
  have k53 := LS.cell 3 _ rfl
  have k54 := LS.cell 4 _ rfl
  have k55 := LS.cell 5 _ rfl
  have k56 := LS.cell 6 _ rfl
  have k57 := LS.cell 7 _ rfl
  have k58 := LS.cell 8 _ rfl
  have k59 := LS.cell 9 _ rfl
  have k60 := LS.cell 10 _ rfl
  have k61 := LS.cell 11 _ rfl
  have k62 := LS.cell 12 _ rfl
  have k63 := LS.cell 13 _ rfl
  have k64 := LS.cell 14 _ rfl
  have k65 := LS.cell 15 _ rfl
  have k66 := LS.cell 16 _ rfl
  have k67 := LS.cell 17 _ rfl
  have k68 := LS.cell 18 _ rfl
  have k69 := LS.cell 19 _ rfl
  have k70 := LS.cell 20 _ rfl
  have k71 := LS.cell 21 _ rfl
  have k72 := LS.cell 22 _ rfl
  have k73 := LS.cell 23 _ rfl
  have k74 := LS.cell 24 _ rfl
  have k75 := LS.cell 25 _ rfl
  have k76 := LS.cell 26 _ rfl
  have k77 := LS.cell 27 _ rfl
  have k78 := LS.cell 28 _ rfl
  have k79 := LS.cell 29 _ rfl
  have k80 := LS.cell 30 _ rfl
  have k81 := LS.cell 31 _ rfl
  have Q := Q.alloc Q.size (.cells #[.int .u64 (zA 0), .int .u64 (zA 1), .int .u64 (zA 2), .int .u64 (zA 3), .int .u64 (zB 0), .int .u64 (zB 1), .int .u64 (zB 2), .int .u64 (zB 3), .int .u64 (zB 0), .int .u64 (zB 1), .int .u64 (zB 2), .int .u64 (zB 3), .int .u64 (zN 0), .int .u64 (zN 1), .int .u64 (zN 2), .int .u64 (zN 3), .int .u64 (zA 0), .int .u64 (zA 1), .int .u64 (zA 2), .int .u64 (zA 3), .int .u64 (zB 0), .int .u64 0, .int .u64 0, .int .u64 0, .int .u64 (zA 0), .int .u64 (zA 1), .int .u64 (zA 2), .int .u64 (zA 3), .int .u64 r, .int .u64 0, .int .u64 0, .int .u64 0] 26)
  go_wp2
  clear k26 k27 k28 k29 k30 k31 k32 k33 k34 k35 k36 k37 k38 k39 k40 k41 k42 k43 k44 k45 k46 k47 k48 k49 k50 k51 k52 k53 k54 k55 k56 k57 k58 k59 k60 k61 k62 k63 k64 k65 k66 k67 k68 k69 k70 k71 k72 k73 k74 k75 k76 k77 k78 k79 k80 k81
  obtain ⟨W2, hW2⟩ : ∃ W2, (v25.alloc (.cells #[.int .u64 (zA 0), .int .u64 (zA 1), .int .u64 (zA 2), .int .u64 (zA 3), .int .u64 (zB 0), .int .u64 (zB 1), .int .u64 (zB 2), .int .u64 (zB 3), .int .u64 (zB 0), .int .u64 (zB 1), .int .u64 (zB 2), .int .u64 (zB 3), .int .u64 (zN 0), .int .u64 (zN 1), .int .u64 (zN 2), .int .u64 (zN 3), .int .u64 (zA 0), .int .u64 (zA 1), .int .u64 (zA 2), .int .u64 (zA 3), .int .u64 (zB 0), .int .u64 0, .int .u64 0, .int .u64 0, .int .u64 (zA 0), .int .u64 (zA 1), .int .u64 (zA 2), .int .u64 (zA 3), .int .u64 r, .int .u64 0, .int .u64 0, .int .u64 0] 26)) = W2 := ⟨_, rfl⟩
  rw [hW2] at LA LB LN LS Q ⊢
  clear hW2
  generalize v25.heap.size = b2 at *
  go_loopw [30] (fun i wr => ∃ k : Nat, k ≤ 4 ∧ i = .int .i64 (k : Int) ∧ Has wr (w.heap.size) 24 #[.int .u64 (zA 0), .int .u64 (zA 1), .int .u64 (zA 2), .int .u64 (zA 3)] ∧ Has wr (w.heap.size + 1) 24 #[.int .u64 (zB 0), .int .u64 (zB 1), .int .u64 (zB 2), .int .u64 (zB 3)] ∧ Has wr (w.heap.size + 1 + 1) 24 #[.int .u64 (zN 0), .int .u64 (zN 1), .int .u64 (zN 2), .int .u64 (zN 3)] ∧ Has wr (b2) 26 #[.int .u64 (zA 0), .int .u64 (zA 1), .int .u64 (zA 2), .int .u64 (zA 3), .int .u64 (zB 0), .int .u64 (zB 1), .int .u64 (zB 2), .int .u64 (zB 3), .int .u64 (zB 0), .int .u64 (zB 1), .int .u64 (zB 2), .int .u64 (zB 3), .int .u64 (zN 0), .int .u64 (zN 1), .int .u64 (zN 2), .int .u64 (zN 3), .int .u64 (zA 0), .int .u64 (zA 1), .int .u64 (zA 2), .int .u64 (zA 3), .int .u64 (zB 0), .int .u64 0, .int .u64 0, .int .u64 0, .int .u64 (zA 0), .int .u64 (zA 1), .int .u64 (zA 2), .int .u64 (zA 3), .int .u64 r, .int .u64 0, .int .u64 0, .int .u64 0] ∧ Below w.heap.size w wr) (fun i _ => 4 - (intOf i).toNat)
  case atStart => exact ⟨0, by omega, rfl, LA, LB, LN, LS, Q⟩
  case round =>
    clear LA LB LN LS Q
    obtain ⟨k, hk, rfl, LA, LB, LN, LS, Q⟩ := hrel
    obtain rfl | rfl | rfl | rfl | rfl : k = 0 ∨ k = 1 ∨ k = 2 ∨ k = 3 ∨ k = 4 := by omega
    · have hk4 : (0 : Int) < 4 := by omega
      clear Hp10 Hq10 Hp11 Hq11 Hp12 Hq12 Hp13 Hq13 Hp20 Hq20 Hp21 Hq21 Hp22 Hq22 Hp23 Hq23 Hp30 Hq30 Hp31 Hq31 Hp32 Hq32 Hp33 Hq33 Hpu Hqu Hpv Hqv Hpx Hqx Hpy Hqy
      have s0 := LS.cell 0 _ rfl
      have s1 := LS.cell 1 _ rfl
      have s2 := LS.cell 2 _ rfl
      have s3 := LS.cell 3 _ rfl
      have s4 := LS.cell 4 _ rfl
      have s5 := LS.cell 5 _ rfl
      have s6 := LS.cell 6 _ rfl
      have s7 := LS.cell 7 _ rfl
      have LA := LA.alloc (.cells #[.int .u64 (zA 0), .int .u64 (zA 1), .int .u64 (zA 2), .int .u64 (zA 3), .int .u64 (zB 0), .int .u64 (zB 1), .int .u64 (zB 2), .int .u64 (zB 3)] 26)
      have LB := LB.alloc (.cells #[.int .u64 (zA 0), .int .u64 (zA 1), .int .u64 (zA 2), .int .u64 (zA 3), .int .u64 (zB 0), .int .u64 (zB 1), .int .u64 (zB 2), .int .u64 (zB 3)] 26)
      have LN := LN.alloc (.cells #[.int .u64 (zA 0), .int .u64 (zA 1), .int .u64 (zA 2), .int .u64 (zA 3), .int .u64 (zB 0), .int .u64 (zB 1), .int .u64 (zB 2), .int .u64 (zB 3)] 26)
      have LS := LS.alloc (.cells #[.int .u64 (zA 0), .int .u64 (zA 1), .int .u64 (zA 2), .int .u64 (zA 3), .int .u64 (zB 0), .int .u64 (zB 1), .int .u64 (zB 2), .int .u64 (zB 3)] 26)
      have LX := Has.new wr 26 #[.int .u64 (zA 0), .int .u64 (zA 1), .int .u64 (zA 2), .int .u64 (zA 3), .int .u64 (zB 0), .int .u64 (zB 1), .int .u64 (zB 2), .int .u64 (zB 3)]
      have Q := Q.alloc Q.size (.cells #[.int .u64 (zA 0), .int .u64 (zA 1), .int .u64 (zA 2), .int .u64 (zA 3), .int .u64 (zB 0), .int .u64 (zB 1), .int .u64 (zB 2), .int .u64 (zB 3)] 26)
      have t0 := LX.cell 0 _ rfl
      have t1 := LX.cell 1 _ rfl
      have t2 := LX.cell 2 _ rfl
      have t3 := LX.cell 3 _ rfl
      have t4 := LX.cell 4 _ rfl
      have t5 := LX.cell 5 _ rfl
      have t6 := LX.cell 6 _ rfl
      have t7 := LX.cell 7 _ rfl
      go_wp2
      obtain ⟨W6, hW6⟩ : ∃ W6, wr.alloc (.cells #[.int .u64 (zA 0), .int .u64 (zA 1), .int .u64 (zA 2), .int .u64 (zA 3), .int .u64 (zB 0), .int .u64 (zB 1), .int .u64 (zB 2), .int .u64 (zB 3)] 26) = W6 := ⟨_, rfl⟩
      rw [hW6] at LA LB LN LS LX Q ⊢
      clear hW6 s0 s1 s2 s3 s4 s5 s6 s7 t0 t1 t2 t3 t4 t5 t6 t7
      generalize wr.heap.size = bx at *
      have t0 : ∀ y : Ext W6, y.w.cell? ⟨bx, 0, none⟩ = some (.int .u64 (zA 0)) := fun y => (LX.later y.below).cell 0 _ rfl
      have t1 : ∀ y : Ext W6, y.w.cell? ⟨bx, 1, none⟩ = some (.int .u64 (zA 1)) := fun y => (LX.later y.below).cell 1 _ rfl
      have t2 : ∀ y : Ext W6, y.w.cell? ⟨bx, 2, none⟩ = some (.int .u64 (zA 2)) := fun y => (LX.later y.below).cell 2 _ rfl
      have t3 : ∀ y : Ext W6, y.w.cell? ⟨bx, 3, none⟩ = some (.int .u64 (zA 3)) := fun y => (LX.later y.below).cell 3 _ rfl
      have t4 : ∀ y : Ext W6, y.w.cell? ⟨bx, 4, none⟩ = some (.int .u64 (zB 0)) := fun y => (LX.later y.below).cell 4 _ rfl
      have t5 : ∀ y : Ext W6, y.w.cell? ⟨bx, 5, none⟩ = some (.int .u64 (zB 1)) := fun y => (LX.later y.below).cell 5 _ rfl
      have t6 : ∀ y : Ext W6, y.w.cell? ⟨bx, 6, none⟩ = some (.int .u64 (zB 2)) := fun y => (LX.later y.below).cell 6 _ rfl
      have t7 : ∀ y : Ext W6, y.w.cell? ⟨bx, 7, none⟩ = some (.int .u64 (zB 3)) := fun y => (LX.later y.below).cell 7 _ rfl
      refine wp_region_quick (C := Grows W6) (by kernel_rfl) (by kernel_rfl) (by kernel_rfl) (grows_refl W6) ?_
      repeat (go_big_quiet_step (first | (with_reducible exact Ret.at Hp00.out _) | (with_reducible exact Ret.at Hq00.out _) | (with_reducible exact Ret.at Hp01.out _) | (with_reducible exact Ret.at Hq01.out _) | (with_reducible exact Ret.at Hp02.out _) | (with_reducible exact Ret.at Hq02.out _) | (with_reducible exact Ret.at Hp03.out _) | (with_reducible exact Ret.at Hq03.out _)))
      refine wpQuiet_nil ?_
      rintro _ ⟨y, rfl⟩
      clear t0 t1 t2 t3 t4 t5 t6 t7 LX
      have N1 := Lib.hid (LA.later y.below)
      have N2 := Lib.hid (LB.later y.below)
      have N3 := Lib.hid (LN.later y.below)
      have N4 := Lib.hid (LS.later y.below)
      have N5 := Lib.hid (Q.trans (y.below.mono Q.size))
      clear LA LB LN LS Q
      go_wp2
      go_roundw
      case rel => exact ⟨1, by omega, rfl, N1.out, N2.out, N3.out, N4.out, N5.out⟩
      case measure => simp [intOf]
    · have hk4 : (0 : Int) < 4 := by omega
      clear Hp00 Hq00 Hp01 Hq01 Hp02 Hq02 Hp03 Hq03 Hp20 Hq20 Hp21 Hq21 Hp22 Hq22 Hp23 Hq23 Hp30 Hq30 Hp31 Hq31 Hp32 Hq32 Hp33 Hq33 Hpu Hqu Hpv Hqv Hpx Hqx Hpy Hqy
      have s0 := LS.cell 8 _ rfl
      have s1 := LS.cell 9 _ rfl
      have s2 := LS.cell 10 _ rfl
      have s3 := LS.cell 11 _ rfl
      have s4 := LS.cell 12 _ rfl
      have s5 := LS.cell 13 _ rfl
      have s6 := LS.cell 14 _ rfl
      have s7 := LS.cell 15 _ rfl
      have LA := LA.alloc (.cells #[.int .u64 (zB 0), .int .u64 (zB 1), .int .u64 (zB 2), .int .u64 (zB 3), .int .u64 (zN 0), .int .u64 (zN 1), .int .u64 (zN 2), .int .u64 (zN 3)] 26)
      have LB := LB.alloc (.cells #[.int .u64 (zB 0), .int .u64 (zB 1), .int .u64 (zB 2), .int .u64 (zB 3), .int .u64 (zN 0), .int .u64 (zN 1), .int .u64 (zN 2), .int .u64 (zN 3)] 26)
      have LN := LN.alloc (.cells #[.int .u64 (zB 0), .int .u64 (zB 1), .int .u64 (zB 2), .int .u64 (zB 3), .int .u64 (zN 0), .int .u64 (zN 1), .int .u64 (zN 2), .int .u64 (zN 3)] 26)
      have LS := LS.alloc (.cells #[.int .u64 (zB 0), .int .u64 (zB 1), .int .u64 (zB 2), .int .u64 (zB 3), .int .u64 (zN 0), .int .u64 (zN 1), .int .u64 (zN 2), .int .u64 (zN 3)] 26)
      have LX := Has.new wr 26 #[.int .u64 (zB 0), .int .u64 (zB 1), .int .u64 (zB 2), .int .u64 (zB 3), .int .u64 (zN 0), .int .u64 (zN 1), .int .u64 (zN 2), .int .u64 (zN 3)]
      have Q := Q.alloc Q.size (.cells #[.int .u64 (zB 0), .int .u64 (zB 1), .int .u64 (zB 2), .int .u64 (zB 3), .int .u64 (zN 0), .int .u64 (zN 1), .int .u64 (zN 2), .int .u64 (zN 3)] 26)
      have t0 := LX.cell 0 _ rfl
      have t1 := LX.cell 1 _ rfl
      have t2 := LX.cell 2 _ rfl
      have t3 := LX.cell 3 _ rfl
      have t4 := LX.cell 4 _ rfl
      have t5 := LX.cell 5 _ rfl
      have t6 := LX.cell 6 _ rfl
      have t7 := LX.cell 7 _ rfl
      go_wp2
      obtain ⟨W6, hW6⟩ : ∃ W6, wr.alloc (.cells #[.int .u64 (zB 0), .int .u64 (zB 1), .int .u64 (zB 2), .int .u64 (zB 3), .int .u64 (zN 0), .int .u64 (zN 1), .int .u64 (zN 2), .int .u64 (zN 3)] 26) = W6 := ⟨_, rfl⟩
      rw [hW6] at LA LB LN LS LX Q ⊢
      clear hW6 s0 s1 s2 s3 s4 s5 s6 s7 t0 t1 t2 t3 t4 t5 t6 t7
      generalize wr.heap.size = bx at *
      have t0 : ∀ y : Ext W6, y.w.cell? ⟨bx, 0, none⟩ = some (.int .u64 (zB 0)) := fun y => (LX.later y.below).cell 0 _ rfl
      have t1 : ∀ y : Ext W6, y.w.cell? ⟨bx, 1, none⟩ = some (.int .u64 (zB 1)) := fun y => (LX.later y.below).cell 1 _ rfl
      have t2 : ∀ y : Ext W6, y.w.cell? ⟨bx, 2, none⟩ = some (.int .u64 (zB 2)) := fun y => (LX.later y.below).cell 2 _ rfl
      have t3 : ∀ y : Ext W6, y.w.cell? ⟨bx, 3, none⟩ = some (.int .u64 (zB 3)) := fun y => (LX.later y.below).cell 3 _ rfl
      have t4 : ∀ y : Ext W6, y.w.cell? ⟨bx, 4, none⟩ = some (.int .u64 (zN 0)) := fun y => (LX.later y.below).cell 4 _ rfl
      have t5 : ∀ y : Ext W6, y.w.cell? ⟨bx, 5, none⟩ = some (.int .u64 (zN 1)) := fun y => (LX.later y.below).cell 5 _ rfl
      have t6 : ∀ y : Ext W6, y.w.cell? ⟨bx, 6, none⟩ = some (.int .u64 (zN 2)) := fun y => (LX.later y.below).cell 6 _ rfl
      have t7 : ∀ y : Ext W6, y.w.cell? ⟨bx, 7, none⟩ = some (.int .u64 (zN 3)) := fun y => (LX.later y.below).cell 7 _ rfl
      refine wp_region_quick (C := Grows W6) (by kernel_rfl) (by kernel_rfl) (by kernel_rfl) (grows_refl W6) ?_
      repeat (go_big_quiet_step (first | (with_reducible exact Ret.at Hp10.out _) | (with_reducible exact Ret.at Hq10.out _) | (with_reducible exact Ret.at Hp11.out _) | (with_reducible exact Ret.at Hq11.out _) | (with_reducible exact Ret.at Hp12.out _) | (with_reducible exact Ret.at Hq12.out _) | (with_reducible exact Ret.at Hp13.out _) | (with_reducible exact Ret.at Hq13.out _)))
      refine wpQuiet_nil ?_
      rintro _ ⟨y, rfl⟩
      clear t0 t1 t2 t3 t4 t5 t6 t7 LX
      have N1 := Lib.hid (LA.later y.below)
      have N2 := Lib.hid (LB.later y.below)
      have N3 := Lib.hid (LN.later y.below)
      have N4 := Lib.hid (LS.later y.below)
      have N5 := Lib.hid (Q.trans (y.below.mono Q.size))
      clear LA LB LN LS Q
      go_wp2
      go_roundw
      case rel => exact ⟨2, by omega, rfl, N1.out, N2.out, N3.out, N4.out, N5.out⟩
      case measure => simp [intOf]
    · have hk4 : (0 : Int) < 4 := by omega
      clear Hp00 Hq00 Hp01 Hq01 Hp02 Hq02 Hp03 Hq03 Hp10 Hq10 Hp11 Hq11 Hp12 Hq12 Hp13 Hq13 Hp30 Hq30 Hp31 Hq31 Hp32 Hq32 Hp33 Hq33 Hpu Hqu Hpv Hqv Hpx Hqx Hpy Hqy
      have s0 := LS.cell 16 _ rfl
      have s1 := LS.cell 17 _ rfl
      have s2 := LS.cell 18 _ rfl
      have s3 := LS.cell 19 _ rfl
      have s4 := LS.cell 20 _ rfl
      have s5 := LS.cell 21 _ rfl
      have s6 := LS.cell 22 _ rfl
      have s7 := LS.cell 23 _ rfl
      have LA := LA.alloc (.cells #[.int .u64 (zA 0), .int .u64 (zA 1), .int .u64 (zA 2), .int .u64 (zA 3), .int .u64 (zB 0), .int .u64 0, .int .u64 0, .int .u64 0] 26)
      have LB := LB.alloc (.cells #[.int .u64 (zA 0), .int .u64 (zA 1), .int .u64 (zA 2), .int .u64 (zA 3), .int .u64 (zB 0), .int .u64 0, .int .u64 0, .int .u64 0] 26)
      have LN := LN.alloc (.cells #[.int .u64 (zA 0), .int .u64 (zA 1), .int .u64 (zA 2), .int .u64 (zA 3), .int .u64 (zB 0), .int .u64 0, .int .u64 0, .int .u64 0] 26)
      have LS := LS.alloc (.cells #[.int .u64 (zA 0), .int .u64 (zA 1), .int .u64 (zA 2), .int .u64 (zA 3), .int .u64 (zB 0), .int .u64 0, .int .u64 0, .int .u64 0] 26)
      have LX := Has.new wr 26 #[.int .u64 (zA 0), .int .u64 (zA 1), .int .u64 (zA 2), .int .u64 (zA 3), .int .u64 (zB 0), .int .u64 0, .int .u64 0, .int .u64 0]
      have Q := Q.alloc Q.size (.cells #[.int .u64 (zA 0), .int .u64 (zA 1), .int .u64 (zA 2), .int .u64 (zA 3), .int .u64 (zB 0), .int .u64 0, .int .u64 0, .int .u64 0] 26)
      have t0 := LX.cell 0 _ rfl
      have t1 := LX.cell 1 _ rfl
      have t2 := LX.cell 2 _ rfl
      have t3 := LX.cell 3 _ rfl
      have t4 := LX.cell 4 _ rfl
      have t5 := LX.cell 5 _ rfl
      have t6 := LX.cell 6 _ rfl
      have t7 := LX.cell 7 _ rfl
      go_wp2
      obtain ⟨W6, hW6⟩ : ∃ W6, wr.alloc (.cells #[.int .u64 (zA 0), .int .u64 (zA 1), .int .u64 (zA 2), .int .u64 (zA 3), .int .u64 (zB 0), .int .u64 0, .int .u64 0, .int .u64 0] 26) = W6 := ⟨_, rfl⟩
      rw [hW6] at LA LB LN LS LX Q ⊢
      clear hW6 s0 s1 s2 s3 s4 s5 s6 s7 t0 t1 t2 t3 t4 t5 t6 t7
      generalize wr.heap.size = bx at *
      have t0 : ∀ y : Ext W6, y.w.cell? ⟨bx, 0, none⟩ = some (.int .u64 (zA 0)) := fun y => (LX.later y.below).cell 0 _ rfl
      have t1 : ∀ y : Ext W6, y.w.cell? ⟨bx, 1, none⟩ = some (.int .u64 (zA 1)) := fun y => (LX.later y.below).cell 1 _ rfl
      have t2 : ∀ y : Ext W6, y.w.cell? ⟨bx, 2, none⟩ = some (.int .u64 (zA 2)) := fun y => (LX.later y.below).cell 2 _ rfl
      have t3 : ∀ y : Ext W6, y.w.cell? ⟨bx, 3, none⟩ = some (.int .u64 (zA 3)) := fun y => (LX.later y.below).cell 3 _ rfl
      have t4 : ∀ y : Ext W6, y.w.cell? ⟨bx, 4, none⟩ = some (.int .u64 (zB 0)) := fun y => (LX.later y.below).cell 4 _ rfl
      have t5 : ∀ y : Ext W6, y.w.cell? ⟨bx, 5, none⟩ = some (.int .u64 0) := fun y => (LX.later y.below).cell 5 _ rfl
      have t6 : ∀ y : Ext W6, y.w.cell? ⟨bx, 6, none⟩ = some (.int .u64 0) := fun y => (LX.later y.below).cell 6 _ rfl
      have t7 : ∀ y : Ext W6, y.w.cell? ⟨bx, 7, none⟩ = some (.int .u64 0) := fun y => (LX.later y.below).cell 7 _ rfl
      refine wp_region_quick (C := Grows W6) (by kernel_rfl) (by kernel_rfl) (by kernel_rfl) (grows_refl W6) ?_
      repeat (go_big_quiet_step (first | (with_reducible exact Ret.at Hp20.out _) | (with_reducible exact Ret.at Hq20.out _) | (with_reducible exact Ret.at Hp21.out _) | (with_reducible exact Ret.at Hq21.out _) | (with_reducible exact Ret.at Hp22.out _) | (with_reducible exact Ret.at Hq22.out _) | (with_reducible exact Ret.at Hp23.out _) | (with_reducible exact Ret.at Hq23.out _)))
      refine wpQuiet_nil ?_
      rintro _ ⟨y, rfl⟩
      clear t0 t1 t2 t3 t4 t5 t6 t7 LX
      have N1 := Lib.hid (LA.later y.below)
      have N2 := Lib.hid (LB.later y.below)
      have N3 := Lib.hid (LN.later y.below)
      have N4 := Lib.hid (LS.later y.below)
      have N5 := Lib.hid (Q.trans (y.below.mono Q.size))
      clear LA LB LN LS Q
      go_wp2
      go_roundw
      case rel => exact ⟨3, by omega, rfl, N1.out, N2.out, N3.out, N4.out, N5.out⟩
      case measure => simp [intOf]
    · have hk4 : (0 : Int) < 4 := by omega
      clear Hp00 Hq00 Hp01 Hq01 Hp02 Hq02 Hp03 Hq03 Hp10 Hq10 Hp11 Hq11 Hp12 Hq12 Hp13 Hq13 Hp20 Hq20 Hp21 Hq21 Hp22 Hq22 Hp23 Hq23 Hpu Hqu Hpv Hqv Hpx Hqx Hpy Hqy
      have s0 := LS.cell 24 _ rfl
      have s1 := LS.cell 25 _ rfl
      have s2 := LS.cell 26 _ rfl
      have s3 := LS.cell 27 _ rfl
      have s4 := LS.cell 28 _ rfl
      have s5 := LS.cell 29 _ rfl
      have s6 := LS.cell 30 _ rfl
      have s7 := LS.cell 31 _ rfl
      have LA := LA.alloc (.cells #[.int .u64 (zA 0), .int .u64 (zA 1), .int .u64 (zA 2), .int .u64 (zA 3), .int .u64 r, .int .u64 0, .int .u64 0, .int .u64 0] 26)
      have LB := LB.alloc (.cells #[.int .u64 (zA 0), .int .u64 (zA 1), .int .u64 (zA 2), .int .u64 (zA 3), .int .u64 r, .int .u64 0, .int .u64 0, .int .u64 0] 26)
      have LN := LN.alloc (.cells #[.int .u64 (zA 0), .int .u64 (zA 1), .int .u64 (zA 2), .int .u64 (zA 3), .int .u64 r, .int .u64 0, .int .u64 0, .int .u64 0] 26)
      have LS := LS.alloc (.cells #[.int .u64 (zA 0), .int .u64 (zA 1), .int .u64 (zA 2), .int .u64 (zA 3), .int .u64 r, .int .u64 0, .int .u64 0, .int .u64 0] 26)
      have LX := Has.new wr 26 #[.int .u64 (zA 0), .int .u64 (zA 1), .int .u64 (zA 2), .int .u64 (zA 3), .int .u64 r, .int .u64 0, .int .u64 0, .int .u64 0]
      have Q := Q.alloc Q.size (.cells #[.int .u64 (zA 0), .int .u64 (zA 1), .int .u64 (zA 2), .int .u64 (zA 3), .int .u64 r, .int .u64 0, .int .u64 0, .int .u64 0] 26)
      have t0 := LX.cell 0 _ rfl
      have t1 := LX.cell 1 _ rfl
      have t2 := LX.cell 2 _ rfl
      have t3 := LX.cell 3 _ rfl
      have t4 := LX.cell 4 _ rfl
      have t5 := LX.cell 5 _ rfl
      have t6 := LX.cell 6 _ rfl
      have t7 := LX.cell 7 _ rfl
      go_wp2
      obtain ⟨W6, hW6⟩ : ∃ W6, wr.alloc (.cells #[.int .u64 (zA 0), .int .u64 (zA 1), .int .u64 (zA 2), .int .u64 (zA 3), .int .u64 r, .int .u64 0, .int .u64 0, .int .u64 0] 26) = W6 := ⟨_, rfl⟩
      rw [hW6] at LA LB LN LS LX Q ⊢
      clear hW6 s0 s1 s2 s3 s4 s5 s6 s7 t0 t1 t2 t3 t4 t5 t6 t7
      generalize wr.heap.size = bx at *
      have t0 : ∀ y : Ext W6, y.w.cell? ⟨bx, 0, none⟩ = some (.int .u64 (zA 0)) := fun y => (LX.later y.below).cell 0 _ rfl
      have t1 : ∀ y : Ext W6, y.w.cell? ⟨bx, 1, none⟩ = some (.int .u64 (zA 1)) := fun y => (LX.later y.below).cell 1 _ rfl
      have t2 : ∀ y : Ext W6, y.w.cell? ⟨bx, 2, none⟩ = some (.int .u64 (zA 2)) := fun y => (LX.later y.below).cell 2 _ rfl
      have t3 : ∀ y : Ext W6, y.w.cell? ⟨bx, 3, none⟩ = some (.int .u64 (zA 3)) := fun y => (LX.later y.below).cell 3 _ rfl
      have t4 : ∀ y : Ext W6, y.w.cell? ⟨bx, 4, none⟩ = some (.int .u64 r) := fun y => (LX.later y.below).cell 4 _ rfl
      have t5 : ∀ y : Ext W6, y.w.cell? ⟨bx, 5, none⟩ = some (.int .u64 0) := fun y => (LX.later y.below).cell 5 _ rfl
      have t6 : ∀ y : Ext W6, y.w.cell? ⟨bx, 6, none⟩ = some (.int .u64 0) := fun y => (LX.later y.below).cell 6 _ rfl
      have t7 : ∀ y : Ext W6, y.w.cell? ⟨bx, 7, none⟩ = some (.int .u64 0) := fun y => (LX.later y.below).cell 7 _ rfl
      refine wp_region_quick (C := Grows W6) (by kernel_rfl) (by kernel_rfl) (by kernel_rfl) (grows_refl W6) ?_
      repeat (go_big_quiet_step (first | (with_reducible exact Ret.at Hp30.out _) | (with_reducible exact Ret.at Hq30.out _) | (with_reducible exact Ret.at Hp31.out _) | (with_reducible exact Ret.at Hq31.out _) | (with_reducible exact Ret.at Hp32.out _) | (with_reducible exact Ret.at Hq32.out _) | (with_reducible exact Ret.at Hp33.out _) | (with_reducible exact Ret.at Hq33.out _)))
      refine wpQuiet_nil ?_
      rintro _ ⟨y, rfl⟩
      clear t0 t1 t2 t3 t4 t5 t6 t7 LX
      have N1 := Lib.hid (LA.later y.below)
      have N2 := Lib.hid (LB.later y.below)
      have N3 := Lib.hid (LN.later y.below)
      have N4 := Lib.hid (LS.later y.below)
      have N5 := Lib.hid (Q.trans (y.below.mono Q.size))
      clear LA LB LN LS Q
      go_wp2
      go_roundw
      case rel => exact ⟨4, by omega, rfl, N1.out, N2.out, N3.out, N4.out, N5.out⟩
      case measure => simp [intOf]
    · clear Hp00 Hq00 Hp01 Hq01 Hp02 Hq02 Hp03 Hq03 Hp10 Hq10 Hp11 Hq11 Hp12 Hq12 Hp13 Hq13 Hp20 Hq20 Hp21 Hq21 Hp22 Hq22 Hp23 Hq23 Hp30 Hq30 Hp31 Hq31 Hp32 Hq32 Hp33 Hq33
      clear LS
      have k82 := LA.cell 0 _ rfl
      have k83 := LA.cell 1 _ rfl
      have k84 := LA.cell 2 _ rfl
      have k85 := LA.cell 3 _ rfl
      have k86 := LB.cell 0 _ rfl
      have k87 := LB.cell 1 _ rfl
      have k88 := LB.cell 2 _ rfl
      have k89 := LB.cell 3 _ rfl
      have k90 := LN.cell 0 _ rfl
      have k91 := LN.cell 1 _ rfl
      have k92 := LN.cell 2 _ rfl
      have k93 := LN.cell 3 _ rfl
      go_wp2_with fail
      clear k82 k83 k84 k85 k86 k87 k88 k89 k90 k91 k92 k93
      have k94 : ∀ x : Ext wr, x.w.cell? ⟨w.heap.size, 0, none⟩ = some (.int .u64 (zA 0)) := fun x => (LA.later x.below).cell 0 _ rfl
      have k95 : ∀ x : Ext wr, x.w.cell? ⟨w.heap.size, 1, none⟩ = some (.int .u64 (zA 1)) := fun x => (LA.later x.below).cell 1 _ rfl
      have k96 : ∀ x : Ext wr, x.w.cell? ⟨w.heap.size, 2, none⟩ = some (.int .u64 (zA 2)) := fun x => (LA.later x.below).cell 2 _ rfl
      have k97 : ∀ x : Ext wr, x.w.cell? ⟨w.heap.size, 3, none⟩ = some (.int .u64 (zA 3)) := fun x => (LA.later x.below).cell 3 _ rfl
      have k98 : ∀ x : Ext wr, x.w.cell? ⟨w.heap.size + 1, 0, none⟩ = some (.int .u64 (zB 0)) := fun x => (LB.later x.below).cell 0 _ rfl
      have k99 : ∀ x : Ext wr, x.w.cell? ⟨w.heap.size + 1, 1, none⟩ = some (.int .u64 (zB 1)) := fun x => (LB.later x.below).cell 1 _ rfl
      have k100 : ∀ x : Ext wr, x.w.cell? ⟨w.heap.size + 1, 2, none⟩ = some (.int .u64 (zB 2)) := fun x => (LB.later x.below).cell 2 _ rfl
      have k101 : ∀ x : Ext wr, x.w.cell? ⟨w.heap.size + 1, 3, none⟩ = some (.int .u64 (zB 3)) := fun x => (LB.later x.below).cell 3 _ rfl
      have k102 : ∀ x : Ext wr, x.w.cell? ⟨w.heap.size + 1 + 1, 0, none⟩ = some (.int .u64 (zN 0)) := fun x => (LN.later x.below).cell 0 _ rfl
      have k103 : ∀ x : Ext wr, x.w.cell? ⟨w.heap.size + 1 + 1, 1, none⟩ = some (.int .u64 (zN 1)) := fun x => (LN.later x.below).cell 1 _ rfl
      have k104 : ∀ x : Ext wr, x.w.cell? ⟨w.heap.size + 1 + 1, 2, none⟩ = some (.int .u64 (zN 2)) := fun x => (LN.later x.below).cell 2 _ rfl
      have k105 : ∀ x : Ext wr, x.w.cell? ⟨w.heap.size + 1 + 1, 3, none⟩ = some (.int .u64 (zN 3)) := fun x => (LN.later x.below).cell 3 _ rfl
      clear LA LB LN
      have HQ := Lib.hid Q
      clear Q
      try simp only [List.append]
      refine wp_region_quick (C := Grows wr) (by kernel_rfl) (by kernel_rfl) (by kernel_rfl) (grows_refl wr) ?_
      repeat (go_big_quiet_step (first | (with_reducible exact Ret.at Hpu.out _) | (with_reducible exact Ret.at Hqu.out _) | (with_reducible exact Ret.at Hpv.out _) | (with_reducible exact Ret.at Hqv.out _) | (with_reducible exact Ret.at Hpx.out _) | (with_reducible exact Ret.at Hqx.out _) | (with_reducible exact Ret.at Hpy.out _) | (with_reducible exact Ret.at Hqy.out _)))
      refine wpQuiet_nil ?_
      rintro _ ⟨x, rfl⟩
      go_wp2
      go_ret
      exact ⟨rfl, HQ.out.trans (x.below.mono HQ.out.size)⟩
end Go.Proofs.Ytnlcllhjhbaigaa
