/- The reference says the same of words' bits: the walk. -/
import Derived.Test.YtnlcllhjhbaigaaDoorBitAwake
namespace Go.Proofs.YtnlcllhjhbaigaaDoor
open Go Go.RowKit
attribute [local go_sem] Oper.semAt_some Grows wide_fn eq4

set_option maxRecDepth 100000 in
set_option maxHeartbeats 16000000 in
theorem btells_walk (zA zC zB zU zV zAnd zOr zXor zNot zShl0 zShr0 zSar0 zByte0 zSign0 zShl1 zShr1 zSar1 zByte1 zSign1 zShl2 zShr2 zSar2 zByte2 zSign2 : Nat → Int) (n u v : Int) (l m : Bool) (k1 : Ret Tryd.prog 19 #[.int .i64 n, .int .i64 260] (.int .i64 u)) (k2 : Ret Tryd.prog 18 #[.int .i64 u] (.agg #[.int .u64 (zU 0), .int .u64 (zU 1), .int .u64 (zU 2), .int .u64 (zU 3)])) (k3 : Ret Tryd.prog 19 #[.int .i64 n, .int .i64 34] (.int .i64 v)) (k4 : Ret Tryd.prog 18 #[.int .i64 v] (.agg #[.int .u64 (zV 0), .int .u64 (zV 1), .int .u64 (zV 2), .int .u64 (zV 3)])) (e0 : Ret Tryd.prog 8 #[.agg #[.int .u64 (zA 0), .int .u64 (zA 1), .int .u64 (zA 2), .int .u64 (zA 3)], .agg #[.int .u64 (zC 0), .int .u64 (zC 1), .int .u64 (zC 2), .int .u64 (zC 3)]] (.agg #[.int .u64 (zAnd 0), .int .u64 (zAnd 1), .int .u64 (zAnd 2), .int .u64 (zAnd 3)])) (f1 : Ret Tryd.prog 9 #[.agg #[.int .u64 (zA 0), .int .u64 (zA 1), .int .u64 (zA 2), .int .u64 (zA 3)], .agg #[.int .u64 (zC 0), .int .u64 (zC 1), .int .u64 (zC 2), .int .u64 (zC 3)]] (.agg #[.int .u64 (zAnd 0), .int .u64 (zAnd 1), .int .u64 (zAnd 2), .int .u64 (zAnd 3)])) (e2 : Ret Tryd.prog 10 #[.agg #[.int .u64 (zA 0), .int .u64 (zA 1), .int .u64 (zA 2), .int .u64 (zA 3)], .agg #[.int .u64 (zC 0), .int .u64 (zC 1), .int .u64 (zC 2), .int .u64 (zC 3)]] (.agg #[.int .u64 (zOr 0), .int .u64 (zOr 1), .int .u64 (zOr 2), .int .u64 (zOr 3)])) (f3 : Ret Tryd.prog 11 #[.agg #[.int .u64 (zA 0), .int .u64 (zA 1), .int .u64 (zA 2), .int .u64 (zA 3)], .agg #[.int .u64 (zC 0), .int .u64 (zC 1), .int .u64 (zC 2), .int .u64 (zC 3)]] (.agg #[.int .u64 (zOr 0), .int .u64 (zOr 1), .int .u64 (zOr 2), .int .u64 (zOr 3)])) (e4 : Ret Tryd.prog 12 #[.agg #[.int .u64 (zA 0), .int .u64 (zA 1), .int .u64 (zA 2), .int .u64 (zA 3)], .agg #[.int .u64 (zC 0), .int .u64 (zC 1), .int .u64 (zC 2), .int .u64 (zC 3)]] (.agg #[.int .u64 (zXor 0), .int .u64 (zXor 1), .int .u64 (zXor 2), .int .u64 (zXor 3)])) (f5 : Ret Tryd.prog 13 #[.agg #[.int .u64 (zA 0), .int .u64 (zA 1), .int .u64 (zA 2), .int .u64 (zA 3)], .agg #[.int .u64 (zC 0), .int .u64 (zC 1), .int .u64 (zC 2), .int .u64 (zC 3)]] (.agg #[.int .u64 (zXor 0), .int .u64 (zXor 1), .int .u64 (zXor 2), .int .u64 (zXor 3)])) (e6 : Ret Tryd.prog 14 #[.agg #[.int .u64 (zA 0), .int .u64 (zA 1), .int .u64 (zA 2), .int .u64 (zA 3)]] (.agg #[.int .u64 (zNot 0), .int .u64 (zNot 1), .int .u64 (zNot 2), .int .u64 (zNot 3)])) (f7 : Ret Tryd.prog 15 #[.agg #[.int .u64 (zA 0), .int .u64 (zA 1), .int .u64 (zA 2), .int .u64 (zA 3)]] (.agg #[.int .u64 (zNot 0), .int .u64 (zNot 1), .int .u64 (zNot 2), .int .u64 (zNot 3)])) (e8 : Ret Tryd.prog 16 #[.agg #[.int .u64 (zA 0), .int .u64 (zA 1), .int .u64 (zA 2), .int .u64 (zA 3)], .agg #[.int .u64 (zC 0), .int .u64 (zC 1), .int .u64 (zC 2), .int .u64 (zC 3)]] (.bool l)) (f9 : Ret Tryd.prog 17 #[.agg #[.int .u64 (zA 0), .int .u64 (zA 1), .int .u64 (zA 2), .int .u64 (zA 3)], .agg #[.int .u64 (zC 0), .int .u64 (zC 1), .int .u64 (zC 2), .int .u64 (zC 3)]] (.bool l)) (e10 : Ret Tryd.prog 16 #[.agg #[.int .u64 (zC 0), .int .u64 (zC 1), .int .u64 (zC 2), .int .u64 (zC 3)], .agg #[.int .u64 (zA 0), .int .u64 (zA 1), .int .u64 (zA 2), .int .u64 (zA 3)]] (.bool m)) (f11 : Ret Tryd.prog 17 #[.agg #[.int .u64 (zC 0), .int .u64 (zC 1), .int .u64 (zC 2), .int .u64 (zC 3)], .agg #[.int .u64 (zA 0), .int .u64 (zA 1), .int .u64 (zA 2), .int .u64 (zA 3)]] (.bool m)) (p00 : RetT Tryd.prog 20 #[.agg #[.int .u64 (zB 0), .int .u64 (zB 1), .int .u64 (zB 2), .int .u64 (zB 3)], .agg #[.int .u64 (zA 0), .int .u64 (zA 1), .int .u64 (zA 2), .int .u64 (zA 3)]] (.agg #[.int .u64 (zShl0 0), .int .u64 (zShl0 1), .int .u64 (zShl0 2), .int .u64 (zShl0 3)])) (q00 : Ret Tryd.prog 21 #[.agg #[.int .u64 (zB 0), .int .u64 (zB 1), .int .u64 (zB 2), .int .u64 (zB 3)], .agg #[.int .u64 (zA 0), .int .u64 (zA 1), .int .u64 (zA 2), .int .u64 (zA 3)]] (.agg #[.int .u64 (zShl0 0), .int .u64 (zShl0 1), .int .u64 (zShl0 2), .int .u64 (zShl0 3)])) (p01 : RetT Tryd.prog 22 #[.agg #[.int .u64 (zB 0), .int .u64 (zB 1), .int .u64 (zB 2), .int .u64 (zB 3)], .agg #[.int .u64 (zA 0), .int .u64 (zA 1), .int .u64 (zA 2), .int .u64 (zA 3)]] (.agg #[.int .u64 (zShr0 0), .int .u64 (zShr0 1), .int .u64 (zShr0 2), .int .u64 (zShr0 3)])) (q01 : Ret Tryd.prog 23 #[.agg #[.int .u64 (zB 0), .int .u64 (zB 1), .int .u64 (zB 2), .int .u64 (zB 3)], .agg #[.int .u64 (zA 0), .int .u64 (zA 1), .int .u64 (zA 2), .int .u64 (zA 3)]] (.agg #[.int .u64 (zShr0 0), .int .u64 (zShr0 1), .int .u64 (zShr0 2), .int .u64 (zShr0 3)])) (p02 : RetT Tryd.prog 24 #[.agg #[.int .u64 (zB 0), .int .u64 (zB 1), .int .u64 (zB 2), .int .u64 (zB 3)], .agg #[.int .u64 (zA 0), .int .u64 (zA 1), .int .u64 (zA 2), .int .u64 (zA 3)]] (.agg #[.int .u64 (zSar0 0), .int .u64 (zSar0 1), .int .u64 (zSar0 2), .int .u64 (zSar0 3)])) (q02 : Ret Tryd.prog 25 #[.agg #[.int .u64 (zB 0), .int .u64 (zB 1), .int .u64 (zB 2), .int .u64 (zB 3)], .agg #[.int .u64 (zA 0), .int .u64 (zA 1), .int .u64 (zA 2), .int .u64 (zA 3)]] (.agg #[.int .u64 (zSar0 0), .int .u64 (zSar0 1), .int .u64 (zSar0 2), .int .u64 (zSar0 3)])) (p03 : Ret Tryd.prog 26 #[.agg #[.int .u64 (zB 0), .int .u64 (zB 1), .int .u64 (zB 2), .int .u64 (zB 3)], .agg #[.int .u64 (zA 0), .int .u64 (zA 1), .int .u64 (zA 2), .int .u64 (zA 3)]] (.agg #[.int .u64 (zByte0 0), .int .u64 (zByte0 1), .int .u64 (zByte0 2), .int .u64 (zByte0 3)])) (q03 : Ret Tryd.prog 27 #[.agg #[.int .u64 (zB 0), .int .u64 (zB 1), .int .u64 (zB 2), .int .u64 (zB 3)], .agg #[.int .u64 (zA 0), .int .u64 (zA 1), .int .u64 (zA 2), .int .u64 (zA 3)]] (.agg #[.int .u64 (zByte0 0), .int .u64 (zByte0 1), .int .u64 (zByte0 2), .int .u64 (zByte0 3)])) (p04 : RetT Tryd.prog 28 #[.agg #[.int .u64 (zB 0), .int .u64 (zB 1), .int .u64 (zB 2), .int .u64 (zB 3)], .agg #[.int .u64 (zA 0), .int .u64 (zA 1), .int .u64 (zA 2), .int .u64 (zA 3)]] (.agg #[.int .u64 (zSign0 0), .int .u64 (zSign0 1), .int .u64 (zSign0 2), .int .u64 (zSign0 3)])) (q04 : Ret Tryd.prog 29 #[.agg #[.int .u64 (zB 0), .int .u64 (zB 1), .int .u64 (zB 2), .int .u64 (zB 3)], .agg #[.int .u64 (zA 0), .int .u64 (zA 1), .int .u64 (zA 2), .int .u64 (zA 3)]] (.agg #[.int .u64 (zSign0 0), .int .u64 (zSign0 1), .int .u64 (zSign0 2), .int .u64 (zSign0 3)])) (p10 : RetT Tryd.prog 20 #[.agg #[.int .u64 (zU 0), .int .u64 (zU 1), .int .u64 (zU 2), .int .u64 (zU 3)], .agg #[.int .u64 (zA 0), .int .u64 (zA 1), .int .u64 (zA 2), .int .u64 (zA 3)]] (.agg #[.int .u64 (zShl1 0), .int .u64 (zShl1 1), .int .u64 (zShl1 2), .int .u64 (zShl1 3)])) (q10 : Ret Tryd.prog 21 #[.agg #[.int .u64 (zU 0), .int .u64 (zU 1), .int .u64 (zU 2), .int .u64 (zU 3)], .agg #[.int .u64 (zA 0), .int .u64 (zA 1), .int .u64 (zA 2), .int .u64 (zA 3)]] (.agg #[.int .u64 (zShl1 0), .int .u64 (zShl1 1), .int .u64 (zShl1 2), .int .u64 (zShl1 3)])) (p11 : RetT Tryd.prog 22 #[.agg #[.int .u64 (zU 0), .int .u64 (zU 1), .int .u64 (zU 2), .int .u64 (zU 3)], .agg #[.int .u64 (zA 0), .int .u64 (zA 1), .int .u64 (zA 2), .int .u64 (zA 3)]] (.agg #[.int .u64 (zShr1 0), .int .u64 (zShr1 1), .int .u64 (zShr1 2), .int .u64 (zShr1 3)])) (q11 : Ret Tryd.prog 23 #[.agg #[.int .u64 (zU 0), .int .u64 (zU 1), .int .u64 (zU 2), .int .u64 (zU 3)], .agg #[.int .u64 (zA 0), .int .u64 (zA 1), .int .u64 (zA 2), .int .u64 (zA 3)]] (.agg #[.int .u64 (zShr1 0), .int .u64 (zShr1 1), .int .u64 (zShr1 2), .int .u64 (zShr1 3)])) (p12 : RetT Tryd.prog 24 #[.agg #[.int .u64 (zU 0), .int .u64 (zU 1), .int .u64 (zU 2), .int .u64 (zU 3)], .agg #[.int .u64 (zA 0), .int .u64 (zA 1), .int .u64 (zA 2), .int .u64 (zA 3)]] (.agg #[.int .u64 (zSar1 0), .int .u64 (zSar1 1), .int .u64 (zSar1 2), .int .u64 (zSar1 3)])) (q12 : Ret Tryd.prog 25 #[.agg #[.int .u64 (zU 0), .int .u64 (zU 1), .int .u64 (zU 2), .int .u64 (zU 3)], .agg #[.int .u64 (zA 0), .int .u64 (zA 1), .int .u64 (zA 2), .int .u64 (zA 3)]] (.agg #[.int .u64 (zSar1 0), .int .u64 (zSar1 1), .int .u64 (zSar1 2), .int .u64 (zSar1 3)])) (p13 : Ret Tryd.prog 26 #[.agg #[.int .u64 (zU 0), .int .u64 (zU 1), .int .u64 (zU 2), .int .u64 (zU 3)], .agg #[.int .u64 (zA 0), .int .u64 (zA 1), .int .u64 (zA 2), .int .u64 (zA 3)]] (.agg #[.int .u64 (zByte1 0), .int .u64 (zByte1 1), .int .u64 (zByte1 2), .int .u64 (zByte1 3)])) (q13 : Ret Tryd.prog 27 #[.agg #[.int .u64 (zU 0), .int .u64 (zU 1), .int .u64 (zU 2), .int .u64 (zU 3)], .agg #[.int .u64 (zA 0), .int .u64 (zA 1), .int .u64 (zA 2), .int .u64 (zA 3)]] (.agg #[.int .u64 (zByte1 0), .int .u64 (zByte1 1), .int .u64 (zByte1 2), .int .u64 (zByte1 3)])) (p14 : RetT Tryd.prog 28 #[.agg #[.int .u64 (zU 0), .int .u64 (zU 1), .int .u64 (zU 2), .int .u64 (zU 3)], .agg #[.int .u64 (zA 0), .int .u64 (zA 1), .int .u64 (zA 2), .int .u64 (zA 3)]] (.agg #[.int .u64 (zSign1 0), .int .u64 (zSign1 1), .int .u64 (zSign1 2), .int .u64 (zSign1 3)])) (q14 : Ret Tryd.prog 29 #[.agg #[.int .u64 (zU 0), .int .u64 (zU 1), .int .u64 (zU 2), .int .u64 (zU 3)], .agg #[.int .u64 (zA 0), .int .u64 (zA 1), .int .u64 (zA 2), .int .u64 (zA 3)]] (.agg #[.int .u64 (zSign1 0), .int .u64 (zSign1 1), .int .u64 (zSign1 2), .int .u64 (zSign1 3)])) (p20 : RetT Tryd.prog 20 #[.agg #[.int .u64 (zV 0), .int .u64 (zV 1), .int .u64 (zV 2), .int .u64 (zV 3)], .agg #[.int .u64 (zA 0), .int .u64 (zA 1), .int .u64 (zA 2), .int .u64 (zA 3)]] (.agg #[.int .u64 (zShl2 0), .int .u64 (zShl2 1), .int .u64 (zShl2 2), .int .u64 (zShl2 3)])) (q20 : Ret Tryd.prog 21 #[.agg #[.int .u64 (zV 0), .int .u64 (zV 1), .int .u64 (zV 2), .int .u64 (zV 3)], .agg #[.int .u64 (zA 0), .int .u64 (zA 1), .int .u64 (zA 2), .int .u64 (zA 3)]] (.agg #[.int .u64 (zShl2 0), .int .u64 (zShl2 1), .int .u64 (zShl2 2), .int .u64 (zShl2 3)])) (p21 : RetT Tryd.prog 22 #[.agg #[.int .u64 (zV 0), .int .u64 (zV 1), .int .u64 (zV 2), .int .u64 (zV 3)], .agg #[.int .u64 (zA 0), .int .u64 (zA 1), .int .u64 (zA 2), .int .u64 (zA 3)]] (.agg #[.int .u64 (zShr2 0), .int .u64 (zShr2 1), .int .u64 (zShr2 2), .int .u64 (zShr2 3)])) (q21 : Ret Tryd.prog 23 #[.agg #[.int .u64 (zV 0), .int .u64 (zV 1), .int .u64 (zV 2), .int .u64 (zV 3)], .agg #[.int .u64 (zA 0), .int .u64 (zA 1), .int .u64 (zA 2), .int .u64 (zA 3)]] (.agg #[.int .u64 (zShr2 0), .int .u64 (zShr2 1), .int .u64 (zShr2 2), .int .u64 (zShr2 3)])) (p22 : RetT Tryd.prog 24 #[.agg #[.int .u64 (zV 0), .int .u64 (zV 1), .int .u64 (zV 2), .int .u64 (zV 3)], .agg #[.int .u64 (zA 0), .int .u64 (zA 1), .int .u64 (zA 2), .int .u64 (zA 3)]] (.agg #[.int .u64 (zSar2 0), .int .u64 (zSar2 1), .int .u64 (zSar2 2), .int .u64 (zSar2 3)])) (q22 : Ret Tryd.prog 25 #[.agg #[.int .u64 (zV 0), .int .u64 (zV 1), .int .u64 (zV 2), .int .u64 (zV 3)], .agg #[.int .u64 (zA 0), .int .u64 (zA 1), .int .u64 (zA 2), .int .u64 (zA 3)]] (.agg #[.int .u64 (zSar2 0), .int .u64 (zSar2 1), .int .u64 (zSar2 2), .int .u64 (zSar2 3)])) (p23 : Ret Tryd.prog 26 #[.agg #[.int .u64 (zV 0), .int .u64 (zV 1), .int .u64 (zV 2), .int .u64 (zV 3)], .agg #[.int .u64 (zA 0), .int .u64 (zA 1), .int .u64 (zA 2), .int .u64 (zA 3)]] (.agg #[.int .u64 (zByte2 0), .int .u64 (zByte2 1), .int .u64 (zByte2 2), .int .u64 (zByte2 3)])) (q23 : Ret Tryd.prog 27 #[.agg #[.int .u64 (zV 0), .int .u64 (zV 1), .int .u64 (zV 2), .int .u64 (zV 3)], .agg #[.int .u64 (zA 0), .int .u64 (zA 1), .int .u64 (zA 2), .int .u64 (zA 3)]] (.agg #[.int .u64 (zByte2 0), .int .u64 (zByte2 1), .int .u64 (zByte2 2), .int .u64 (zByte2 3)])) (p24 : RetT Tryd.prog 28 #[.agg #[.int .u64 (zV 0), .int .u64 (zV 1), .int .u64 (zV 2), .int .u64 (zV 3)], .agg #[.int .u64 (zA 0), .int .u64 (zA 1), .int .u64 (zA 2), .int .u64 (zA 3)]] (.agg #[.int .u64 (zSign2 0), .int .u64 (zSign2 1), .int .u64 (zSign2 2), .int .u64 (zSign2 3)])) (q24 : Ret Tryd.prog 29 #[.agg #[.int .u64 (zV 0), .int .u64 (zV 1), .int .u64 (zV 2), .int .u64 (zV 3)], .agg #[.int .u64 (zA 0), .int .u64 (zA 1), .int .u64 (zA 2), .int .u64 (zA 3)]] (.agg #[.int .u64 (zSign2 0), .int .u64 (zSign2 1), .int .u64 (zSign2 2), .int .u64 (zSign2 3)])) :
    RetT Tryd.prog 3 #[.agg #[.int .u64 (zA 0), .int .u64 (zA 1), .int .u64 (zA 2), .int .u64 (zA 3)], .agg #[.int .u64 (zC 0), .int .u64 (zC 1), .int .u64 (zC 2), .int .u64 (zC 3)], .agg #[.int .u64 (zB 0), .int .u64 (zB 1), .int .u64 (zB 2), .int .u64 (zB 3)], .int .i64 n] (.bool true) := by
  intro w HT
  have k0 := awake_ret
  have Hk1 := Lib.hid k1
  have Hk2 := Lib.hid k2
  have Hk3 := Lib.hid k3
  have Hk4 := Lib.hid k4
  have He0 := Lib.hid e0
  have Hf1 := Lib.hid f1
  have He2 := Lib.hid e2
  have Hf3 := Lib.hid f3
  have He4 := Lib.hid e4
  have Hf5 := Lib.hid f5
  have He6 := Lib.hid e6
  have Hf7 := Lib.hid f7
  have He8 := Lib.hid e8
  have Hf9 := Lib.hid f9
  have He10 := Lib.hid e10
  have Hf11 := Lib.hid f11
  have Hp00 := Lib.hid p00
  have Hq00 := Lib.hid q00
  have Hp01 := Lib.hid p01
  have Hq01 := Lib.hid q01
  have Hp02 := Lib.hid p02
  have Hq02 := Lib.hid q02
  have Hp03 := Lib.hid p03
  have Hq03 := Lib.hid q03
  have Hp04 := Lib.hid p04
  have Hq04 := Lib.hid q04
  have Hp10 := Lib.hid p10
  have Hq10 := Lib.hid q10
  have Hp11 := Lib.hid p11
  have Hq11 := Lib.hid q11
  have Hp12 := Lib.hid p12
  have Hq12 := Lib.hid q12
  have Hp13 := Lib.hid p13
  have Hq13 := Lib.hid q13
  have Hp14 := Lib.hid p14
  have Hq14 := Lib.hid q14
  have Hp20 := Lib.hid p20
  have Hq20 := Lib.hid q20
  have Hp21 := Lib.hid p21
  have Hq21 := Lib.hid q21
  have Hp22 := Lib.hid p22
  have Hq22 := Lib.hid q22
  have Hp23 := Lib.hid p23
  have Hq23 := Lib.hid q23
  have Hp24 := Lib.hid p24
  have Hq24 := Lib.hid q24
  have Hk0 := Lib.hid k0
  clear k1 k2 k3 k4 e0 f1 e2 f3 e4 f5 e6 f7 e8 f9 e10 f11 p00 q00 p01 q01 p02 q02 p03 q03 p04 q04 p10 q10 p11 q11 p12 q12 p13 q13 p14 q14 p20 q20 p21 q21 p22 q22 p23 q23 p24 q24 k0
  go_enter Tryd.func3, Tryd.ntmps3
  have LA := Has.new w 24 #[.int .u64 (zA 0), .int .u64 (zA 1), .int .u64 (zA 2), .int .u64 (zA 3)]
  have k1 := LA.cell 0 _ rfl
  have k2 := LA.cell 1 _ rfl
  have k3 := LA.cell 2 _ rfl
  have k4 := LA.cell 3 _ rfl
  have LA := LA.alloc (.cells #[.int .u64 (zC 0), .int .u64 (zC 1), .int .u64 (zC 2), .int .u64 (zC 3)] 24)
  have LC := Has.new (w.alloc (.cells #[.int .u64 (zA 0), .int .u64 (zA 1), .int .u64 (zA 2), .int .u64 (zA 3)] 24)) 24 #[.int .u64 (zC 0), .int .u64 (zC 1), .int .u64 (zC 2), .int .u64 (zC 3)]
  simp only [World.size_alloc] at LC
  have k5 := LA.cell 0 _ rfl
  have k6 := LA.cell 1 _ rfl
  have k7 := LA.cell 2 _ rfl
  have k8 := LA.cell 3 _ rfl
  have k9 := LC.cell 0 _ rfl
  have k10 := LC.cell 1 _ rfl
  have k11 := LC.cell 2 _ rfl
  have k12 := LC.cell 3 _ rfl
  have LA := LA.alloc (.cells #[.int .u64 (zB 0), .int .u64 (zB 1), .int .u64 (zB 2), .int .u64 (zB 3)] 24)
  have LC := LC.alloc (.cells #[.int .u64 (zB 0), .int .u64 (zB 1), .int .u64 (zB 2), .int .u64 (zB 3)] 24)
  have LB := Has.new ((w.alloc (.cells #[.int .u64 (zA 0), .int .u64 (zA 1), .int .u64 (zA 2), .int .u64 (zA 3)] 24)).alloc (.cells #[.int .u64 (zC 0), .int .u64 (zC 1), .int .u64 (zC 2), .int .u64 (zC 3)] 24)) 24 #[.int .u64 (zB 0), .int .u64 (zB 1), .int .u64 (zB 2), .int .u64 (zB 3)]
  simp only [World.size_alloc] at LB
  have k13 := LA.cell 0 _ rfl
  have k14 := LA.cell 1 _ rfl
  have k15 := LA.cell 2 _ rfl
  have k16 := LA.cell 3 _ rfl
  have k17 := LC.cell 0 _ rfl
  have k18 := LC.cell 1 _ rfl
  have k19 := LC.cell 2 _ rfl
  have k20 := LC.cell 3 _ rfl
  have k21 := LB.cell 0 _ rfl
  have k22 := LB.cell 1 _ rfl
  have k23 := LB.cell 2 _ rfl
  have k24 := LB.cell 3 _ rfl
  have Q := (Below.refl w.heap.size w)
  have Q := Q.alloc Q.size (.cells #[.int .u64 (zA 0), .int .u64 (zA 1), .int .u64 (zA 2), .int .u64 (zA 3)] 24)
  have HT := HT.alloc (.cells #[.int .u64 (zA 0), .int .u64 (zA 1), .int .u64 (zA 2), .int .u64 (zA 3)] 24)
  have Q := Q.alloc Q.size (.cells #[.int .u64 (zC 0), .int .u64 (zC 1), .int .u64 (zC 2), .int .u64 (zC 3)] 24)
  have HT := HT.alloc (.cells #[.int .u64 (zC 0), .int .u64 (zC 1), .int .u64 (zC 2), .int .u64 (zC 3)] 24)
  have Q := Q.alloc Q.size (.cells #[.int .u64 (zB 0), .int .u64 (zB 1), .int .u64 (zB 2), .int .u64 (zB 3)] 24)
  have HT := HT.alloc (.cells #[.int .u64 (zB 0), .int .u64 (zB 1), .int .u64 (zB 2), .int .u64 (zB 3)] 24)
  go_wp2_with fail
  clear k1 k2 k3 k4 k5 k6 k7 k8 k9 k10 k11 k12 k13 k14 k15 k16 k17 k18 k19 k20 k21 k22 k23 k24
  obtain ⟨W1, hW1⟩ : ∃ W1, (((w.alloc (.cells #[.int .u64 (zA 0), .int .u64 (zA 1), .int .u64 (zA 2), .int .u64 (zA 3)] 24)).alloc (.cells #[.int .u64 (zC 0), .int .u64 (zC 1), .int .u64 (zC 2), .int .u64 (zC 3)] 24)).alloc (.cells #[.int .u64 (zB 0), .int .u64 (zB 1), .int .u64 (zB 2), .int .u64 (zB 3)] 24)) = W1 := ⟨_, rfl⟩
  rw [hW1] at LA LC LB Q HT ⊢
  clear hW1
  refine (Hk0.out _ HT).mono ?_
  rintro e v25 ⟨rfl, q⟩
  have HT := HT.later q
  have LA := LA.later q
  have LC := LC.later q
  have LB := LB.later q
  have Q := Q.trans (q.mono Q.size)
  clear q
  have k26 := LA.cell 0 _ rfl
  have k27 := LA.cell 1 _ rfl
  have k28 := LA.cell 2 _ rfl
  have k29 := LA.cell 3 _ rfl
  have k30 := LC.cell 0 _ rfl
  have k31 := LC.cell 1 _ rfl
  have k32 := LC.cell 2 _ rfl
  have k33 := LC.cell 3 _ rfl
  have k34 := LB.cell 0 _ rfl
  have k35 := LB.cell 1 _ rfl
  have k36 := LB.cell 2 _ rfl
  have k37 := LB.cell 3 _ rfl
  go_wp2_with fail
  clear k26 k27 k28 k29 k30 k31 k32 k33 k34 k35 k36 k37
  have tA0 : ∀ y : Ext v25, y.w.cell? ⟨w.heap.size, 0, none⟩ = some (.int .u64 (zA 0)) := fun y => (LA.later y.below).cell 0 _ rfl
  have tA1 : ∀ y : Ext v25, y.w.cell? ⟨w.heap.size, 1, none⟩ = some (.int .u64 (zA 1)) := fun y => (LA.later y.below).cell 1 _ rfl
  have tA2 : ∀ y : Ext v25, y.w.cell? ⟨w.heap.size, 2, none⟩ = some (.int .u64 (zA 2)) := fun y => (LA.later y.below).cell 2 _ rfl
  have tA3 : ∀ y : Ext v25, y.w.cell? ⟨w.heap.size, 3, none⟩ = some (.int .u64 (zA 3)) := fun y => (LA.later y.below).cell 3 _ rfl
  have tC0 : ∀ y : Ext v25, y.w.cell? ⟨w.heap.size + 1, 0, none⟩ = some (.int .u64 (zC 0)) := fun y => (LC.later y.below).cell 0 _ rfl
  have tC1 : ∀ y : Ext v25, y.w.cell? ⟨w.heap.size + 1, 1, none⟩ = some (.int .u64 (zC 1)) := fun y => (LC.later y.below).cell 1 _ rfl
  have tC2 : ∀ y : Ext v25, y.w.cell? ⟨w.heap.size + 1, 2, none⟩ = some (.int .u64 (zC 2)) := fun y => (LC.later y.below).cell 2 _ rfl
  have tC3 : ∀ y : Ext v25, y.w.cell? ⟨w.heap.size + 1, 3, none⟩ = some (.int .u64 (zC 3)) := fun y => (LC.later y.below).cell 3 _ rfl
  refine wp_region_quick (C := Grows v25) (by kernel_rfl) (by kernel_rfl) (by kernel_rfl) (grows_refl v25) ?_
  repeat (go_big_quiet_step (first | (with_reducible exact Ret.at He0.out _) | (with_reducible exact Ret.at Hf1.out _) | (with_reducible exact Ret.at He2.out _) | (with_reducible exact Ret.at Hf3.out _) | (with_reducible exact Ret.at He4.out _) | (with_reducible exact Ret.at Hf5.out _) | (with_reducible exact Ret.at He6.out _) | (with_reducible exact Ret.at Hf7.out _) | (with_reducible exact Ret.at He8.out _) | (with_reducible exact Ret.at Hf9.out _) | (with_reducible exact Ret.at He10.out _) | (with_reducible exact Ret.at Hf11.out _)))
  refine wpQuiet_nil ?_
  rintro _ ⟨y, rfl⟩
  clear tA0 tA1 tA2 tA3 tC0 tC1 tC2 tC3 He0 Hf1 He2 Hf3 He4 Hf5 He6 Hf7 He8 Hf9 He10 Hf11
  have LA := LA.later y.below
  have LC := LC.later y.below
  have LB := LB.later y.below
  have HT := HT.later y.below
  have Q := Q.trans (y.below.mono Q.size)
  go_wp2
  generalize y.w = W6 at *
  clear y
  have tB0 : ∀ y : Ext W6, y.w.cell? ⟨w.heap.size + 1 + 1, 0, none⟩ = some (.int .u64 (zB 0)) := fun y => (LB.later y.below).cell 0 _ rfl
  have tB1 : ∀ y : Ext W6, y.w.cell? ⟨w.heap.size + 1 + 1, 1, none⟩ = some (.int .u64 (zB 1)) := fun y => (LB.later y.below).cell 1 _ rfl
  have tB2 : ∀ y : Ext W6, y.w.cell? ⟨w.heap.size + 1 + 1, 2, none⟩ = some (.int .u64 (zB 2)) := fun y => (LB.later y.below).cell 2 _ rfl
  have tB3 : ∀ y : Ext W6, y.w.cell? ⟨w.heap.size + 1 + 1, 3, none⟩ = some (.int .u64 (zB 3)) := fun y => (LB.later y.below).cell 3 _ rfl
  have hmx : Tryd.prog.follows .mixedOrders = true := by kernel_rfl
  refine wp_region_mix (C := Grows W6) [some true, some true, some true, some true, some true, some true, some true, none, none, some false] hmx (by kernel_rfl) (by kernel_rfl) (grows_refl W6) ?_
  simp only [headOf, tailOf]
  repeat (go_big_quiet_step (first | (with_reducible exact Ret.at Hk1.out _) | (with_reducible exact Ret.at Hk2.out _) | (with_reducible exact Ret.at Hk3.out _) | (with_reducible exact Ret.at Hk4.out _)))
  refine wpQuiet_nil ?_
  rintro _ ⟨y, rfl⟩
  clear tB0 tB1 tB2 tB3 Hk1 Hk2 Hk3 Hk4
  have LA := (LA.later y.below).alloc (.cells #[.int .u64 (zB 0), .int .u64 (zB 1), .int .u64 (zB 2), .int .u64 (zB 3), .int .u64 (zU 0), .int .u64 (zU 1), .int .u64 (zU 2), .int .u64 (zU 3), .int .u64 (zV 0), .int .u64 (zV 1), .int .u64 (zV 2), .int .u64 (zV 3)] 24)
  have LC := (LC.later y.below).alloc (.cells #[.int .u64 (zB 0), .int .u64 (zB 1), .int .u64 (zB 2), .int .u64 (zB 3), .int .u64 (zU 0), .int .u64 (zU 1), .int .u64 (zU 2), .int .u64 (zU 3), .int .u64 (zV 0), .int .u64 (zV 1), .int .u64 (zV 2), .int .u64 (zV 3)] 24)
  have LB := (LB.later y.below).alloc (.cells #[.int .u64 (zB 0), .int .u64 (zB 1), .int .u64 (zB 2), .int .u64 (zB 3), .int .u64 (zU 0), .int .u64 (zU 1), .int .u64 (zU 2), .int .u64 (zU 3), .int .u64 (zV 0), .int .u64 (zV 1), .int .u64 (zV 2), .int .u64 (zV 3)] 24)
  have LS := Has.new y.w 24 #[.int .u64 (zB 0), .int .u64 (zB 1), .int .u64 (zB 2), .int .u64 (zB 3), .int .u64 (zU 0), .int .u64 (zU 1), .int .u64 (zU 2), .int .u64 (zU 3), .int .u64 (zV 0), .int .u64 (zV 1), .int .u64 (zV 2), .int .u64 (zV 3)]
  have HT := (HT.later y.below).alloc (.cells #[.int .u64 (zB 0), .int .u64 (zB 1), .int .u64 (zB 2), .int .u64 (zB 3), .int .u64 (zU 0), .int .u64 (zU 1), .int .u64 (zU 2), .int .u64 (zU 3), .int .u64 (zV 0), .int .u64 (zV 1), .int .u64 (zV 2), .int .u64 (zV 3)] 24)
  have Q := Q.trans (y.below.mono Q.size)
  have Q := Q.alloc Q.size (.cells #[.int .u64 (zB 0), .int .u64 (zB 1), .int .u64 (zB 2), .int .u64 (zB 3), .int .u64 (zU 0), .int .u64 (zU 1), .int .u64 (zU 2), .int .u64 (zU 3), .int .u64 (zV 0), .int .u64 (zV 1), .int .u64 (zV 2), .int .u64 (zV 3)] 24)
  go_wp2
  rw [calmPost_normal]
  go_wp2
  obtain ⟨W7, hW7⟩ : ∃ W7, y.w.alloc (.cells #[.int .u64 (zB 0), .int .u64 (zB 1), .int .u64 (zB 2), .int .u64 (zB 3), .int .u64 (zU 0), .int .u64 (zU 1), .int .u64 (zU 2), .int .u64 (zU 3), .int .u64 (zV 0), .int .u64 (zV 1), .int .u64 (zV 2), .int .u64 (zV 3)] 24) = W7 := ⟨_, rfl⟩
  rw [hW7] at LA LC LB LS HT Q ⊢
  clear hW7
  generalize y.w.heap.size = bs at *
  go_loopw [72] (fun i wr => ∃ k : Nat, k ≤ 3 ∧ i = .int .i64 (k : Int) ∧ Has wr (w.heap.size) 24 #[.int .u64 (zA 0), .int .u64 (zA 1), .int .u64 (zA 2), .int .u64 (zA 3)] ∧ Has wr (w.heap.size + 1) 24 #[.int .u64 (zC 0), .int .u64 (zC 1), .int .u64 (zC 2), .int .u64 (zC 3)] ∧ Has wr (w.heap.size + 1 + 1) 24 #[.int .u64 (zB 0), .int .u64 (zB 1), .int .u64 (zB 2), .int .u64 (zB 3)] ∧ Has wr (bs) 24 #[.int .u64 (zB 0), .int .u64 (zB 1), .int .u64 (zB 2), .int .u64 (zB 3), .int .u64 (zU 0), .int .u64 (zU 1), .int .u64 (zU 2), .int .u64 (zU 3), .int .u64 (zV 0), .int .u64 (zV 1), .int .u64 (zV 2), .int .u64 (zV 3)] ∧ Tab wr ∧ Below w.heap.size w wr) (fun i _ => 3 - (intOf i).toNat)
  case atStart => exact ⟨0, by omega, rfl, LA, LC, LB, LS, HT, Q⟩
  case round =>
    clear LA LC LB LS HT Q
    obtain ⟨k, hk, rfl, LA, LC, LB, LS, HT, Q⟩ := hrel
    obtain rfl | rfl | rfl | rfl : k = 0 ∨ k = 1 ∨ k = 2 ∨ k = 3 := by omega
    · have hk4 : (0 : Int) < 3 := by omega
      clear Hp10 Hq10 Hp11 Hq11 Hp12 Hq12 Hp13 Hq13 Hp14 Hq14 Hp20 Hq20 Hp21 Hq21 Hp22 Hq22 Hp23 Hq23 Hp24 Hq24
      have s0 := LS.cell 0 _ rfl
      have s1 := LS.cell 1 _ rfl
      have s2 := LS.cell 2 _ rfl
      have s3 := LS.cell 3 _ rfl
      have LA := LA.alloc (.cells #[.int .u64 (zB 0), .int .u64 (zB 1), .int .u64 (zB 2), .int .u64 (zB 3)] 24)
      have LC := LC.alloc (.cells #[.int .u64 (zB 0), .int .u64 (zB 1), .int .u64 (zB 2), .int .u64 (zB 3)] 24)
      have LB := LB.alloc (.cells #[.int .u64 (zB 0), .int .u64 (zB 1), .int .u64 (zB 2), .int .u64 (zB 3)] 24)
      have LS := LS.alloc (.cells #[.int .u64 (zB 0), .int .u64 (zB 1), .int .u64 (zB 2), .int .u64 (zB 3)] 24)
      have LX := Has.new wr 24 #[.int .u64 (zB 0), .int .u64 (zB 1), .int .u64 (zB 2), .int .u64 (zB 3)]
      have Q := Q.alloc Q.size (.cells #[.int .u64 (zB 0), .int .u64 (zB 1), .int .u64 (zB 2), .int .u64 (zB 3)] 24)
      have HT := HT.alloc (.cells #[.int .u64 (zB 0), .int .u64 (zB 1), .int .u64 (zB 2), .int .u64 (zB 3)] 24)
      have t0 := LX.cell 0 _ rfl
      have t1 := LX.cell 1 _ rfl
      have t2 := LX.cell 2 _ rfl
      have t3 := LX.cell 3 _ rfl
      go_wp2
      obtain ⟨W8, hW8⟩ : ∃ W8, wr.alloc (.cells #[.int .u64 (zB 0), .int .u64 (zB 1), .int .u64 (zB 2), .int .u64 (zB 3)] 24) = W8 := ⟨_, rfl⟩
      rw [hW8] at LA LC LB LS LX HT Q ⊢
      clear hW8 s0 s1 s2 s3 t0 t1 t2 t3
      generalize wr.heap.size = bx at *
      have t0 : ∀ y : Ext W8, y.w.cell? ⟨bx, 0, none⟩ = some (.int .u64 (zB 0)) := fun y => (LX.later y.below).cell 0 _ rfl
      have t1 : ∀ y : Ext W8, y.w.cell? ⟨bx, 1, none⟩ = some (.int .u64 (zB 1)) := fun y => (LX.later y.below).cell 1 _ rfl
      have t2 : ∀ y : Ext W8, y.w.cell? ⟨bx, 2, none⟩ = some (.int .u64 (zB 2)) := fun y => (LX.later y.below).cell 2 _ rfl
      have t3 : ∀ y : Ext W8, y.w.cell? ⟨bx, 3, none⟩ = some (.int .u64 (zB 3)) := fun y => (LX.later y.below).cell 3 _ rfl
      have a0 : ∀ y : Ext W8, y.w.cell? ⟨w.heap.size, 0, none⟩ = some (.int .u64 (zA 0)) := fun y => (LA.later y.below).cell 0 _ rfl
      have a1 : ∀ y : Ext W8, y.w.cell? ⟨w.heap.size, 1, none⟩ = some (.int .u64 (zA 1)) := fun y => (LA.later y.below).cell 1 _ rfl
      have a2 : ∀ y : Ext W8, y.w.cell? ⟨w.heap.size, 2, none⟩ = some (.int .u64 (zA 2)) := fun y => (LA.later y.below).cell 2 _ rfl
      have a3 : ∀ y : Ext W8, y.w.cell? ⟨w.heap.size, 3, none⟩ = some (.int .u64 (zA 3)) := fun y => (LA.later y.below).cell 3 _ rfl
      refine wp_region_quick (C := Grows W8) (by kernel_rfl) (by kernel_rfl) (by kernel_rfl) (grows_refl W8) ?_
      repeat (go_big_quiet_step (first | (with_reducible exact RetT.at Hp00.out HT _) | (with_reducible exact Ret.at Hq00.out _) | (with_reducible exact RetT.at Hp01.out HT _) | (with_reducible exact Ret.at Hq01.out _) | (with_reducible exact RetT.at Hp02.out HT _) | (with_reducible exact Ret.at Hq02.out _) | (with_reducible exact Ret.at Hp03.out _) | (with_reducible exact Ret.at Hq03.out _) | (with_reducible exact RetT.at Hp04.out HT _) | (with_reducible exact Ret.at Hq04.out _)))
      refine wpQuiet_nil ?_
      rintro _ ⟨y, rfl⟩
      clear t0 t1 t2 t3 a0 a1 a2 a3 LX
      have N1 := Lib.hid (LA.later y.below)
      have N2 := Lib.hid (LC.later y.below)
      have N3 := Lib.hid (LB.later y.below)
      have N4 := Lib.hid (LS.later y.below)
      have N5 := Lib.hid (HT.later y.below)
      have N6 := Lib.hid (Q.trans (y.below.mono Q.size))
      clear LA LC LB LS HT Q
      go_wp2
      go_roundw
      case rel => exact ⟨1, by omega, rfl, N1.out, N2.out, N3.out, N4.out, N5.out, N6.out⟩
      case measure => simp [intOf]
    · have hk4 : (0 : Int) < 3 := by omega
      clear Hp00 Hq00 Hp01 Hq01 Hp02 Hq02 Hp03 Hq03 Hp04 Hq04 Hp20 Hq20 Hp21 Hq21 Hp22 Hq22 Hp23 Hq23 Hp24 Hq24
      have s0 := LS.cell 4 _ rfl
      have s1 := LS.cell 5 _ rfl
      have s2 := LS.cell 6 _ rfl
      have s3 := LS.cell 7 _ rfl
      have LA := LA.alloc (.cells #[.int .u64 (zU 0), .int .u64 (zU 1), .int .u64 (zU 2), .int .u64 (zU 3)] 24)
      have LC := LC.alloc (.cells #[.int .u64 (zU 0), .int .u64 (zU 1), .int .u64 (zU 2), .int .u64 (zU 3)] 24)
      have LB := LB.alloc (.cells #[.int .u64 (zU 0), .int .u64 (zU 1), .int .u64 (zU 2), .int .u64 (zU 3)] 24)
      have LS := LS.alloc (.cells #[.int .u64 (zU 0), .int .u64 (zU 1), .int .u64 (zU 2), .int .u64 (zU 3)] 24)
      have LX := Has.new wr 24 #[.int .u64 (zU 0), .int .u64 (zU 1), .int .u64 (zU 2), .int .u64 (zU 3)]
      have Q := Q.alloc Q.size (.cells #[.int .u64 (zU 0), .int .u64 (zU 1), .int .u64 (zU 2), .int .u64 (zU 3)] 24)
      have HT := HT.alloc (.cells #[.int .u64 (zU 0), .int .u64 (zU 1), .int .u64 (zU 2), .int .u64 (zU 3)] 24)
      have t0 := LX.cell 0 _ rfl
      have t1 := LX.cell 1 _ rfl
      have t2 := LX.cell 2 _ rfl
      have t3 := LX.cell 3 _ rfl
      go_wp2
      obtain ⟨W8, hW8⟩ : ∃ W8, wr.alloc (.cells #[.int .u64 (zU 0), .int .u64 (zU 1), .int .u64 (zU 2), .int .u64 (zU 3)] 24) = W8 := ⟨_, rfl⟩
      rw [hW8] at LA LC LB LS LX HT Q ⊢
      clear hW8 s0 s1 s2 s3 t0 t1 t2 t3
      generalize wr.heap.size = bx at *
      have t0 : ∀ y : Ext W8, y.w.cell? ⟨bx, 0, none⟩ = some (.int .u64 (zU 0)) := fun y => (LX.later y.below).cell 0 _ rfl
      have t1 : ∀ y : Ext W8, y.w.cell? ⟨bx, 1, none⟩ = some (.int .u64 (zU 1)) := fun y => (LX.later y.below).cell 1 _ rfl
      have t2 : ∀ y : Ext W8, y.w.cell? ⟨bx, 2, none⟩ = some (.int .u64 (zU 2)) := fun y => (LX.later y.below).cell 2 _ rfl
      have t3 : ∀ y : Ext W8, y.w.cell? ⟨bx, 3, none⟩ = some (.int .u64 (zU 3)) := fun y => (LX.later y.below).cell 3 _ rfl
      have a0 : ∀ y : Ext W8, y.w.cell? ⟨w.heap.size, 0, none⟩ = some (.int .u64 (zA 0)) := fun y => (LA.later y.below).cell 0 _ rfl
      have a1 : ∀ y : Ext W8, y.w.cell? ⟨w.heap.size, 1, none⟩ = some (.int .u64 (zA 1)) := fun y => (LA.later y.below).cell 1 _ rfl
      have a2 : ∀ y : Ext W8, y.w.cell? ⟨w.heap.size, 2, none⟩ = some (.int .u64 (zA 2)) := fun y => (LA.later y.below).cell 2 _ rfl
      have a3 : ∀ y : Ext W8, y.w.cell? ⟨w.heap.size, 3, none⟩ = some (.int .u64 (zA 3)) := fun y => (LA.later y.below).cell 3 _ rfl
      refine wp_region_quick (C := Grows W8) (by kernel_rfl) (by kernel_rfl) (by kernel_rfl) (grows_refl W8) ?_
      repeat (go_big_quiet_step (first | (with_reducible exact RetT.at Hp10.out HT _) | (with_reducible exact Ret.at Hq10.out _) | (with_reducible exact RetT.at Hp11.out HT _) | (with_reducible exact Ret.at Hq11.out _) | (with_reducible exact RetT.at Hp12.out HT _) | (with_reducible exact Ret.at Hq12.out _) | (with_reducible exact Ret.at Hp13.out _) | (with_reducible exact Ret.at Hq13.out _) | (with_reducible exact RetT.at Hp14.out HT _) | (with_reducible exact Ret.at Hq14.out _)))
      refine wpQuiet_nil ?_
      rintro _ ⟨y, rfl⟩
      clear t0 t1 t2 t3 a0 a1 a2 a3 LX
      have N1 := Lib.hid (LA.later y.below)
      have N2 := Lib.hid (LC.later y.below)
      have N3 := Lib.hid (LB.later y.below)
      have N4 := Lib.hid (LS.later y.below)
      have N5 := Lib.hid (HT.later y.below)
      have N6 := Lib.hid (Q.trans (y.below.mono Q.size))
      clear LA LC LB LS HT Q
      go_wp2
      go_roundw
      case rel => exact ⟨2, by omega, rfl, N1.out, N2.out, N3.out, N4.out, N5.out, N6.out⟩
      case measure => simp [intOf]
    · have hk4 : (0 : Int) < 3 := by omega
      clear Hp00 Hq00 Hp01 Hq01 Hp02 Hq02 Hp03 Hq03 Hp04 Hq04 Hp10 Hq10 Hp11 Hq11 Hp12 Hq12 Hp13 Hq13 Hp14 Hq14
      have s0 := LS.cell 8 _ rfl
      have s1 := LS.cell 9 _ rfl
      have s2 := LS.cell 10 _ rfl
      have s3 := LS.cell 11 _ rfl
      have LA := LA.alloc (.cells #[.int .u64 (zV 0), .int .u64 (zV 1), .int .u64 (zV 2), .int .u64 (zV 3)] 24)
      have LC := LC.alloc (.cells #[.int .u64 (zV 0), .int .u64 (zV 1), .int .u64 (zV 2), .int .u64 (zV 3)] 24)
      have LB := LB.alloc (.cells #[.int .u64 (zV 0), .int .u64 (zV 1), .int .u64 (zV 2), .int .u64 (zV 3)] 24)
      have LS := LS.alloc (.cells #[.int .u64 (zV 0), .int .u64 (zV 1), .int .u64 (zV 2), .int .u64 (zV 3)] 24)
      have LX := Has.new wr 24 #[.int .u64 (zV 0), .int .u64 (zV 1), .int .u64 (zV 2), .int .u64 (zV 3)]
      have Q := Q.alloc Q.size (.cells #[.int .u64 (zV 0), .int .u64 (zV 1), .int .u64 (zV 2), .int .u64 (zV 3)] 24)
      have HT := HT.alloc (.cells #[.int .u64 (zV 0), .int .u64 (zV 1), .int .u64 (zV 2), .int .u64 (zV 3)] 24)
      have t0 := LX.cell 0 _ rfl
      have t1 := LX.cell 1 _ rfl
      have t2 := LX.cell 2 _ rfl
      have t3 := LX.cell 3 _ rfl
      go_wp2
      obtain ⟨W8, hW8⟩ : ∃ W8, wr.alloc (.cells #[.int .u64 (zV 0), .int .u64 (zV 1), .int .u64 (zV 2), .int .u64 (zV 3)] 24) = W8 := ⟨_, rfl⟩
      rw [hW8] at LA LC LB LS LX HT Q ⊢
      clear hW8 s0 s1 s2 s3 t0 t1 t2 t3
      generalize wr.heap.size = bx at *
      have t0 : ∀ y : Ext W8, y.w.cell? ⟨bx, 0, none⟩ = some (.int .u64 (zV 0)) := fun y => (LX.later y.below).cell 0 _ rfl
      have t1 : ∀ y : Ext W8, y.w.cell? ⟨bx, 1, none⟩ = some (.int .u64 (zV 1)) := fun y => (LX.later y.below).cell 1 _ rfl
      have t2 : ∀ y : Ext W8, y.w.cell? ⟨bx, 2, none⟩ = some (.int .u64 (zV 2)) := fun y => (LX.later y.below).cell 2 _ rfl
      have t3 : ∀ y : Ext W8, y.w.cell? ⟨bx, 3, none⟩ = some (.int .u64 (zV 3)) := fun y => (LX.later y.below).cell 3 _ rfl
      have a0 : ∀ y : Ext W8, y.w.cell? ⟨w.heap.size, 0, none⟩ = some (.int .u64 (zA 0)) := fun y => (LA.later y.below).cell 0 _ rfl
      have a1 : ∀ y : Ext W8, y.w.cell? ⟨w.heap.size, 1, none⟩ = some (.int .u64 (zA 1)) := fun y => (LA.later y.below).cell 1 _ rfl
      have a2 : ∀ y : Ext W8, y.w.cell? ⟨w.heap.size, 2, none⟩ = some (.int .u64 (zA 2)) := fun y => (LA.later y.below).cell 2 _ rfl
      have a3 : ∀ y : Ext W8, y.w.cell? ⟨w.heap.size, 3, none⟩ = some (.int .u64 (zA 3)) := fun y => (LA.later y.below).cell 3 _ rfl
      refine wp_region_quick (C := Grows W8) (by kernel_rfl) (by kernel_rfl) (by kernel_rfl) (grows_refl W8) ?_
      repeat (go_big_quiet_step (first | (with_reducible exact RetT.at Hp20.out HT _) | (with_reducible exact Ret.at Hq20.out _) | (with_reducible exact RetT.at Hp21.out HT _) | (with_reducible exact Ret.at Hq21.out _) | (with_reducible exact RetT.at Hp22.out HT _) | (with_reducible exact Ret.at Hq22.out _) | (with_reducible exact Ret.at Hp23.out _) | (with_reducible exact Ret.at Hq23.out _) | (with_reducible exact RetT.at Hp24.out HT _) | (with_reducible exact Ret.at Hq24.out _)))
      refine wpQuiet_nil ?_
      rintro _ ⟨y, rfl⟩
      clear t0 t1 t2 t3 a0 a1 a2 a3 LX
      have N1 := Lib.hid (LA.later y.below)
      have N2 := Lib.hid (LC.later y.below)
      have N3 := Lib.hid (LB.later y.below)
      have N4 := Lib.hid (LS.later y.below)
      have N5 := Lib.hid (HT.later y.below)
      have N6 := Lib.hid (Q.trans (y.below.mono Q.size))
      clear LA LC LB LS HT Q
      go_wp2
      go_roundw
      case rel => exact ⟨3, by omega, rfl, N1.out, N2.out, N3.out, N4.out, N5.out, N6.out⟩
      case measure => simp [intOf]
    · clear Hp00 Hq00 Hp01 Hq01 Hp02 Hq02 Hp03 Hq03 Hp04 Hq04 Hp10 Hq10 Hp11 Hq11 Hp12 Hq12 Hp13 Hq13 Hp14 Hq14 Hp20 Hq20 Hp21 Hq21 Hp22 Hq22 Hp23 Hq23 Hp24 Hq24 LA LC LB LS HT
      go_wp2
      go_ret
      exact ⟨rfl, Q⟩
end Go.Proofs.YtnlcllhjhbaigaaDoor
