/- Part. -/
import Derived.Test.YtpolmfmlklmmcaaG06
import Derived.Test.YtpolmfmlklmmcaaRows
import Derived.ProofKit
import Derived.LaidMore
import Derived.OpenShut
import Derived.Stop.Joined
import Derived.ChangeSame
import Derived.Below
import Derived.Laws.IdiomArrays
import Derived.Test.YtpolmfmlklmmcaaG04
import Derived.Deep.OwnRows
import Derived.Laws.MakeOwn
import Derived.Laws.AppendOwn
import Derived.OwnWalk
import Derived.WalkSmall
set_option maxRecDepth 100000
set_option maxHeartbeats 16000000
namespace Go.Proofs.Ytpolmfmlklmmcaa
section
open Go Go.RowKit
attribute [local go_sem] Oper.semAt_some Grows wide_fn eq4
theorem wv_nat (n : Nat) (h : n < 18446744073709551616) : wv n = .agg #[.int .u64 (n : Int), .int .u64 0, .int .u64 0, .int .u64 0] := by
 refine wv_of ⟨?_, ?_, ?_, ?_⟩
 ·show ((n % 18446744073709551616 : Nat) : Int) = _
  rw [Nat.mod_eq_of_lt h]
 ·show ((n / 18446744073709551616 % 18446744073709551616 : Nat) : Int) = _
  rw [Nat.div_eq_of_lt h]; rfl
 ·show ((n / 340282366920938463463374607431768211456 % 18446744073709551616 : Nat) : Int) = _
  rw [Nat.div_eq_of_lt (by omega)]; rfl
 ·show ((n / 6277101735386680763835789423207666416102355444464034512896 % 18446744073709551616 : Nat) : Int) = _
  rw [Nat.div_eq_of_lt (by omega)]; rfl
theorem ofR (n : Nat) (h : n ≤ 9223372036854775807) : Ret Try.prog 12 #[.int .i64 (n : Int)] (.agg #[.int .u64 (n : Int), .int .u64 0, .int .u64 0, .int .u64 0]) := by
 have h1 := refOf_ret (n : Int) (by unfold I64; omega)
 rw [ofN_nat, wv_nat n (by omega)] at h1
 exact h1
theorem needR (a n : Nat) (ha : a ≤ 9223372036854775807) (hn : n ≤ 9223372036854775807) : Ret Try.prog 13 #[.agg #[.int .u64 (a : Int), .int .u64 0, .int .u64 0, .int .u64 0], .agg #[.int .u64 (n : Int), .int .u64 0, .int .u64 0, .int .u64 0]] (needV a n) := by
 have h := need_ret a n (by unfold W256; omega) (by unfold W256; omega)
 rw [wv_nat a (by omega), wv_nat n (by omega)] at h
 exact h
theorem pieceR (s : ByteArray) (hs : s.size ≤ 70368744177664) (a : Nat) (ha : a ≤ 9223372036854775807) (n : Int) : Ret Try.prog 28 #[.string s, .agg #[.int .u64 (a : Int), .int .u64 0, .int .u64 0, .int .u64 0], .int .i64 n] (pieceV s a n) := by
 have h := piece_ret s hs a (by unfold W256; omega) n
 rw [wv_nat a (by omega)] at h
 exact h
theorem awake_walk (m n : ByteArray) (hl : (m.size : Int) = 32) (g1 : Ret Try.prog 16 #[.string ⟨#[]⟩, .int .i64 1] (.tuple #[.string m, .int .i64 0])) (o1 : Ret Try.prog 12 #[.int .i64 1] (.agg #[.int .u64 1, .int .u64 0, .int .u64 0, .int .u64 0])) (o2 : Ret Try.prog 12 #[.int .i64 2] (.agg #[.int .u64 2, .int .u64 0, .int .u64 0, .int .u64 0])) (o31 : Ret Try.prog 12 #[.int .i64 31] (.agg #[.int .u64 31, .int .u64 0, .int .u64 0, .int .u64 0])) (om : Ret Try.prog 12 #[.int .i64 1048576] (.agg #[.int .u64 1048576, .int .u64 0, .int .u64 0, .int .u64 0])) (st : Ret Try.prog 20 #[.string m, .int .i64 0, .agg #[.int .u64 1, .int .u64 0, .int .u64 0, .int .u64 0]] (.tuple #[.string n, .int .i64 0])) (sl : Ret Try.prog 26 #[.string n, .int .i64 31, .int .i64 1] (.tuple #[.string ⟨#[1]⟩, .int .i64 0])) (l0 : Ret Try.prog 18 #[.string n, .int .i64 0] (.tuple #[.agg #[.int .u64 1, .int .u64 0, .int .u64 0, .int .u64 0], .int .i64 0])) (l1 : Ret Try.prog 18 #[.string n, .int .i64 1] (.tuple #[.agg #[.int .u64 0, .int .u64 0, .int .u64 0, .int .u64 0], .int .i64 1])) (n1 : Ret Try.prog 13 #[.agg #[.int .u64 31, .int .u64 0, .int .u64 0, .int .u64 0], .agg #[.int .u64 2, .int .u64 0, .int .u64 0, .int .u64 0]] (.tuple #[.int .i64 2, .bool true])) (n2 : Ret Try.prog 13 #[.agg #[.int .u64 1048576, .int .u64 0, .int .u64 0, .int .u64 0], .agg #[.int .u64 1, .int .u64 0, .int .u64 0, .int .u64 0]] (.tuple #[.int .i64 0, .bool false])) (pc : Ret Try.prog 28 #[.string ⟨#[97, 98, 99]⟩, .agg #[.int .u64 2, .int .u64 0, .int .u64 0, .int .u64 0], .int .i64 3] (.tuple #[.string ⟨#[99, 0, 0]⟩, .int .i64 0])) (c1 : Ret Try.prog 9 #[.int .i64 1] (.int .i64 3)) (c2 : Ret Try.prog 9 #[.int .i64 1024] (.int .i64 5120)) :
  Ret Try.prog 8 #[] (.bool true) := by
 intro w
 have Hg1 := hid g1
 have Ho1 := hid o1
 have Ho2 := hid o2
 have Ho31 := hid o31
 have Hom := hid om
 have Hst := hid st
 have Hsl := hid sl
 have Hl0 := hid l0
 have Hl1 := hid l1
 have Hn1 := hid n1
 have Hn2 := hid n2
 have Hpc := hid pc
 have Hc1 := hid c1
 have Hc2 := hid c2
 clear g1 o1 o2 o31 om st sl l0 l1 n1 n2 pc c1 c2
 go_enter Try.func8, Try.ntmps8
 go_wp2_with fail
 refine (Hg1.out _).mono ?_
 rintro e v1 ⟨rfl, q⟩
 have Q := q
 clear q
 go_wp2_with fail
 refine (Ho1.out _).mono ?_
 rintro e v2 ⟨rfl, q⟩
 have Q := Q.trans (q.mono Q.size)
 clear q
 go_wp2_with fail
 refine (Hst.out _).mono ?_
 rintro e v3 ⟨rfl, q⟩
 have Q := Q.trans (q.mono Q.size)
 clear q
 go_wp2_with fail
 refine (Hsl.out _).mono ?_
 rintro e v4 ⟨rfl, q⟩
 have Q := Q.trans (q.mono Q.size)
 clear q
 go_wp2_with fail
 refine (Hl0.out _).mono ?_
 rintro e v5 ⟨rfl, q⟩
 have Q := Q.trans (q.mono Q.size)
 clear q
 have LW := Has.new v5 24 #[.int .u64 1, .int .u64 0, .int .u64 0, .int .u64 0]
 have k6 := LW.cell 0 _ rfl
 have k7 := LW.cell 1 _ rfl
 have k8 := LW.cell 2 _ rfl
 have k9 := LW.cell 3 _ rfl
 have Q := Q.alloc Q.size (.cells #[.int .u64 1, .int .u64 0, .int .u64 0, .int .u64 0] 24)
 go_wp2_with fail
 clear k6 k7 k8 k9
 obtain ⟨W1, hW1⟩ : ∃ W1, (v5.alloc (.cells #[.int .u64 1, .int .u64 0, .int .u64 0, .int .u64 0] 24)) = W1 := ⟨_, rfl⟩
 rw [hW1] at LW Q ⊢
 clear hW1
 generalize v5.heap.size = b1 at *
 refine (Hl1.out _).mono ?_
 rintro e v10 ⟨rfl, q⟩
 have LW := LW.later q
 have Q := Q.trans (q.mono Q.size)
 clear q
 have k11 := LW.cell 0 _ rfl
 have k12 := LW.cell 1 _ rfl
 have k13 := LW.cell 2 _ rfl
 have k14 := LW.cell 3 _ rfl
 have LW := LW.alloc (.cells #[.int .u64 0, .int .u64 0, .int .u64 0, .int .u64 0] 24)
 have LV := Has.new v10 24 #[.int .u64 0, .int .u64 0, .int .u64 0, .int .u64 0]
 have k15 := LW.cell 0 _ rfl
 have k16 := LW.cell 1 _ rfl
 have k17 := LW.cell 2 _ rfl
 have k18 := LW.cell 3 _ rfl
 have k19 := LV.cell 0 _ rfl
 have k20 := LV.cell 1 _ rfl
 have k21 := LV.cell 2 _ rfl
 have k22 := LV.cell 3 _ rfl
 have Q := Q.alloc Q.size (.cells #[.int .u64 0, .int .u64 0, .int .u64 0, .int .u64 0] 24)
 go_wp2_with fail
 clear k11 k12 k13 k14 k15 k16 k17 k18 k19 k20 k21 k22
 obtain ⟨W2, hW2⟩ : ∃ W2, (v10.alloc (.cells #[.int .u64 0, .int .u64 0, .int .u64 0, .int .u64 0] 24)) = W2 := ⟨_, rfl⟩
 rw [hW2] at LW LV Q ⊢
 clear hW2
 generalize v10.heap.size = b2 at *
 refine (Ho31.out _).mono ?_
 rintro e v23 ⟨rfl, q⟩
 have LW := LW.later q
 have LV := LV.later q
 have Q := Q.trans (q.mono Q.size)
 clear q
 have k24 := LW.cell 0 _ rfl
 have k25 := LW.cell 1 _ rfl
 have k26 := LW.cell 2 _ rfl
 have k27 := LW.cell 3 _ rfl
 have k28 := LV.cell 0 _ rfl
 have k29 := LV.cell 1 _ rfl
 have k30 := LV.cell 2 _ rfl
 have k31 := LV.cell 3 _ rfl
 go_wp2_with fail
 clear k24 k25 k26 k27 k28 k29 k30 k31
 refine (Ho2.out _).mono ?_
 rintro e v32 ⟨rfl, q⟩
 have LW := LW.later q
 have LV := LV.later q
 have Q := Q.trans (q.mono Q.size)
 clear q
 have k33 := LW.cell 0 _ rfl
 have k34 := LW.cell 1 _ rfl
 have k35 := LW.cell 2 _ rfl
 have k36 := LW.cell 3 _ rfl
 have k37 := LV.cell 0 _ rfl
 have k38 := LV.cell 1 _ rfl
 have k39 := LV.cell 2 _ rfl
 have k40 := LV.cell 3 _ rfl
 go_wp2_with fail
 clear k33 k34 k35 k36 k37 k38 k39 k40
 refine (Hn1.out _).mono ?_
 rintro e v41 ⟨rfl, q⟩
 have LW := LW.later q
 have LV := LV.later q
 have Q := Q.trans (q.mono Q.size)
 clear q
 have k42 := LW.cell 0 _ rfl
 have k43 := LW.cell 1 _ rfl
 have k44 := LW.cell 2 _ rfl
 have k45 := LW.cell 3 _ rfl
 have k46 := LV.cell 0 _ rfl
 have k47 := LV.cell 1 _ rfl
 have k48 := LV.cell 2 _ rfl
 have k49 := LV.cell 3 _ rfl
 go_wp2_with fail
 clear k42 k43 k44 k45 k46 k47 k48 k49
 refine (Hom.out _).mono ?_
 rintro e v50 ⟨rfl, q⟩
 have LW := LW.later q
 have LV := LV.later q
 have Q := Q.trans (q.mono Q.size)
 clear q
 have k51 := LW.cell 0 _ rfl
 have k52 := LW.cell 1 _ rfl
 have k53 := LW.cell 2 _ rfl
 have k54 := LW.cell 3 _ rfl
 have k55 := LV.cell 0 _ rfl
 have k56 := LV.cell 1 _ rfl
 have k57 := LV.cell 2 _ rfl
 have k58 := LV.cell 3 _ rfl
 go_wp2_with fail
 clear k51 k52 k53 k54 k55 k56 k57 k58
 refine (Ho1.out _).mono ?_
 rintro e v59 ⟨rfl, q⟩
 have LW := LW.later q
 have LV := LV.later q
 have Q := Q.trans (q.mono Q.size)
 clear q
 have k60 := LW.cell 0 _ rfl
 have k61 := LW.cell 1 _ rfl
 have k62 := LW.cell 2 _ rfl
 have k63 := LW.cell 3 _ rfl
 have k64 := LV.cell 0 _ rfl
 have k65 := LV.cell 1 _ rfl
 have k66 := LV.cell 2 _ rfl
 have k67 := LV.cell 3 _ rfl
 go_wp2_with fail
 clear k60 k61 k62 k63 k64 k65 k66 k67
 refine (Hn2.out _).mono ?_
 rintro e v68 ⟨rfl, q⟩
 have LW := LW.later q
 have LV := LV.later q
 have Q := Q.trans (q.mono Q.size)
 clear q
 have k69 := LW.cell 0 _ rfl
 have k70 := LW.cell 1 _ rfl
 have k71 := LW.cell 2 _ rfl
 have k72 := LW.cell 3 _ rfl
 have k73 := LV.cell 0 _ rfl
 have k74 := LV.cell 1 _ rfl
 have k75 := LV.cell 2 _ rfl
 have k76 := LV.cell 3 _ rfl
 go_wp2_with fail
 clear k69 k70 k71 k72 k73 k74 k75 k76
 refine (Ho2.out _).mono ?_
 rintro e v77 ⟨rfl, q⟩
 have LW := LW.later q
 have LV := LV.later q
 have Q := Q.trans (q.mono Q.size)
 clear q
 have k78 := LW.cell 0 _ rfl
 have k79 := LW.cell 1 _ rfl
 have k80 := LW.cell 2 _ rfl
 have k81 := LW.cell 3 _ rfl
 have k82 := LV.cell 0 _ rfl
 have k83 := LV.cell 1 _ rfl
 have k84 := LV.cell 2 _ rfl
 have k85 := LV.cell 3 _ rfl
 go_wp2_with fail
 clear k78 k79 k80 k81 k82 k83 k84 k85
 refine (Hpc.out _).mono ?_
 rintro e v86 ⟨rfl, q⟩
 have LW := LW.later q
 have LV := LV.later q
 have Q := Q.trans (q.mono Q.size)
 clear q
 have k87 := LW.cell 0 _ rfl
 have k88 := LW.cell 1 _ rfl
 have k89 := LW.cell 2 _ rfl
 have k90 := LW.cell 3 _ rfl
 have k91 := LV.cell 0 _ rfl
 have k92 := LV.cell 1 _ rfl
 have k93 := LV.cell 2 _ rfl
 have k94 := LV.cell 3 _ rfl
 go_wp2_with fail
 clear k87 k88 k89 k90 k91 k92 k93 k94
 have k95 : ∀ x : Ext v86, x.w.cell? ⟨b1, 0, none⟩ = some (.int .u64 1) := fun x => (LW.later x.below).cell 0 _ rfl
 have k96 : ∀ x : Ext v86, x.w.cell? ⟨b1, 1, none⟩ = some (.int .u64 0) := fun x => (LW.later x.below).cell 1 _ rfl
 have k97 : ∀ x : Ext v86, x.w.cell? ⟨b1, 2, none⟩ = some (.int .u64 0) := fun x => (LW.later x.below).cell 2 _ rfl
 have k98 : ∀ x : Ext v86, x.w.cell? ⟨b1, 3, none⟩ = some (.int .u64 0) := fun x => (LW.later x.below).cell 3 _ rfl
 have k99 : ∀ x : Ext v86, x.w.cell? ⟨b2, 0, none⟩ = some (.int .u64 0) := fun x => (LV.later x.below).cell 0 _ rfl
 have k100 : ∀ x : Ext v86, x.w.cell? ⟨b2, 1, none⟩ = some (.int .u64 0) := fun x => (LV.later x.below).cell 1 _ rfl
 have k101 : ∀ x : Ext v86, x.w.cell? ⟨b2, 2, none⟩ = some (.int .u64 0) := fun x => (LV.later x.below).cell 2 _ rfl
 have k102 : ∀ x : Ext v86, x.w.cell? ⟨b2, 3, none⟩ = some (.int .u64 0) := fun x => (LV.later x.below).cell 3 _ rfl
 clear LW LV
 have HQ := hid Q
 clear Q
 try simp only [List.append]
 refine wp_region_quick (C := Grows v86) (by kernel_rfl) (by kernel_rfl) (by kernel_rfl) (grows_refl v86) ?_
 repeat (go_big_quiet_step (first | (with_reducible exact Ret.at Ho1.out _) | (with_reducible exact Ret.at Hc1.out _) | (with_reducible exact Ret.at Hc2.out _)))
 refine wpQuiet_nil ?_
 rintro _ ⟨x, rfl⟩
 go_wp2
 go_ret
 exact ⟨rfl, HQ.out.trans (x.below.mono HQ.out.size)⟩
def memOne : ByteArray := overS (fullS ⟨#[]⟩ 32) 0 (bytesOf 1)
theorem memOne_size : memOne.size = 32 := by decide +kernel
theorem memOne_last : memOne.extract 31 32 = ⟨#[1]⟩ := by decide +kernel
theorem memOne_all : wordAt memOne 0 = 1 := by decide +kernel
theorem awake_ret : Ret Try.prog 8 #[] (.bool true) := by
 have hz : (fullS ⟨#[]⟩ 32).size = 32 := by decide +kernel
 have w1 : wv 1 = .agg #[.int .u64 1, .int .u64 0, .int .u64 0, .int .u64 0] := wv_nat 1 (by decide)
 have w0 : wv 0 = .agg #[.int .u64 0, .int .u64 0, .int .u64 0, .int .u64 0] := wv_nat 0 (by decide)
 have st := store_ret (fullS ⟨#[]⟩ 32) (by rw [hz]; decide) 0 1 (by unfold W256; decide)
 rw [show copyV (fullS ⟨#[]⟩ 32) 0 (bytesOf 1) = .tuple #[.string memOne, .int .i64 0] from if_pos (by decide +kernel), w1] at st
 have sl := slice_ret memOne (by rw [memOne_size]; decide) 31 1
 rw [show sliceV memOne 31 1 = .tuple #[.string ⟨#[1]⟩, .int .i64 0] from (if_pos (by decide +kernel)).trans (by rw [show ((31 : Int).toNat) = 31 from rfl, show ((31 : Int) + 1).toNat = 32 from rfl, memOne_last])] at sl
 have l0 := load_ret memOne (by rw [memOne_size]; decide) 0
 rw [show loadV memOne 0 = .tuple #[wv 1, .int .i64 0] from (if_pos (by decide +kernel)).trans (by rw [show ((0 : Int).toNat) = 0 from rfl, memOne_all]), w1] at l0
 have l1 := load_ret memOne (by rw [memOne_size]; decide) 1
 rw [show loadV memOne 1 = .tuple #[wv 0, .int .i64 1] from if_neg (by decide +kernel), w0] at l1
 have g1 := grow_ret ⟨#[]⟩ (by decide) 1
 rw [show growV ⟨#[]⟩ 1 = .tuple #[.string (fullS ⟨#[]⟩ 32), .int .i64 0] from if_pos (by decide +kernel)] at g1
 exact awake_walk (fullS ⟨#[]⟩ 32) memOne (by rw [hz]; rfl) g1 (ofR 1 (by decide)) (ofR 2 (by decide)) (ofR 31 (by decide)) (ofR 1048576 (by decide)) st sl l0 l1
  (needR 31 2 (by decide) (by decide)) (needR 1048576 1 (by decide) (by decide)) (Ret.of_eq (pieceR ⟨#[97, 98, 99]⟩ (by decide) 2 (by decide) 3) rfl ((if_pos (by decide +kernel)).trans (by congr 3))) (Ret.of_eq (cost_ret 1) rfl (by rw [show costN 1 = 3 by decide +kernel])) (Ret.of_eq (cost_ret 1024) rfl (by rw [show costN 1024 = 5120 by decide +kernel]))
theorem costs_walk (x n a b c r : Int) (nb : Bool) (k0 : Ret Try.prog 8 #[] (.bool true)) (hn0 : 0 ≤ n) (hn1 : n ≤ 32765) (ha : 0 ≤ a ∧ a ≤ 10000000) (hb : 0 ≤ b ∧ b ≤ 10000000) (hc : 0 ≤ c ∧ c ≤ 10000000) (d1 : 3 ≤ b - a) (d2 : 3 ≤ c - b) (d3 : 6 ≤ c - a) (d4 : (n < 512) ∨ (¬ n < 512 ∧ 3 < b - a)) (hz : (n == 0) = nb) (p1 : Ret Try.prog 11 #[.int .i64 x, .int .i64 32766] (.int .i64 n)) (c1 : Ret Try.prog 9 #[.int .i64 n] (.int .i64 a)) (c2 : Ret Try.prog 9 #[.int .i64 (n + 1)] (.int .i64 b)) (c3 : Ret Try.prog 9 #[.int .i64 (n + 2)] (.int .i64 c)) (o1 : Ret Try.prog 12 #[.int .i64 (32 * n)] (.agg #[.int .u64 (32 * n), .int .u64 0, .int .u64 0, .int .u64 0])) (o2 : Ret Try.prog 12 #[.int .i64 32] (.agg #[.int .u64 32, .int .u64 0, .int .u64 0, .int .u64 0])) (o3 : Ret Try.prog 12 #[.int .i64 1048576] (.agg #[.int .u64 1048576, .int .u64 0, .int .u64 0, .int .u64 0])) (n1 : Ret Try.prog 13 #[.agg #[.int .u64 (32 * n), .int .u64 0, .int .u64 0, .int .u64 0], .agg #[.int .u64 32, .int .u64 0, .int .u64 0, .int .u64 0]] (.tuple #[.int .i64 (n + 1), .bool true])) (n2 : Ret Try.prog 13 #[.agg #[.int .u64 (32 * n), .int .u64 0, .int .u64 0, .int .u64 0], .agg #[.int .u64 1048576, .int .u64 0, .int .u64 0, .int .u64 0]] (.tuple #[.int .i64 r, .bool nb])) :
  Ret Try.prog 7 #[.int .i64 x] (.bool true) := by
 intro w
 have Hk0 := hid k0
 have Hp1 := hid p1
 have Hc1 := hid c1
 have Hc2 := hid c2
 have Hc3 := hid c3
 have Ho1 := hid o1
 have Ho2 := hid o2
 have Ho3 := hid o3
 have Hn1 := hid n1
 have Hn2 := hid n2
 clear k0 p1 c1 c2 c3 o1 o2 o3 n1 n2
 obtain ⟨a0, a1⟩ := ha
 obtain ⟨b0, b1⟩ := hb
 obtain ⟨c0, c1⟩ := hc
 obtain d4 | ⟨d4, d5⟩ := d4
 ·skip
  go_enter Try.func7, Try.ntmps7
  go_wp2_with fail
  refine (Hk0.out _).mono ?_
  rintro e v1 ⟨rfl, q⟩
  have Q := q
  clear q
  go_wp2_with fail
  refine (Hp1.out _).mono ?_
  rintro e v2 ⟨rfl, q⟩
  have Q := Q.trans (q.mono Q.size)
  clear q
  go_wp2_with fail
  refine (Hc1.out _).mono ?_
  rintro e v3 ⟨rfl, q⟩
  have Q := Q.trans (q.mono Q.size)
  clear q
  go_wp2_with fail
  refine (Hc2.out _).mono ?_
  rintro e v4 ⟨rfl, q⟩
  have Q := Q.trans (q.mono Q.size)
  clear q
  go_wp2_with fail
  refine (Hc3.out _).mono ?_
  rintro e v5 ⟨rfl, q⟩
  have Q := Q.trans (q.mono Q.size)
  clear q
  go_wp2_with fail
  refine (Ho1.out _).mono ?_
  rintro e v6 ⟨rfl, q⟩
  have Q := Q.trans (q.mono Q.size)
  clear q
  go_wp2_with fail
  refine (Ho2.out _).mono ?_
  rintro e v7 ⟨rfl, q⟩
  have Q := Q.trans (q.mono Q.size)
  clear q
  go_wp2_with fail
  refine (Hn1.out _).mono ?_
  rintro e v8 ⟨rfl, q⟩
  have Q := Q.trans (q.mono Q.size)
  clear q
  go_wp2_with fail
  refine (Ho1.out _).mono ?_
  rintro e v9 ⟨rfl, q⟩
  have Q := Q.trans (q.mono Q.size)
  clear q
  go_wp2_with fail
  refine (Ho3.out _).mono ?_
  rintro e v10 ⟨rfl, q⟩
  have Q := Q.trans (q.mono Q.size)
  clear q
  go_wp2_with fail
  refine (Hn2.out _).mono ?_
  rintro e v11 ⟨rfl, q⟩
  have Q := Q.trans (q.mono Q.size)
  clear q
  go_wp2
  go_ret
  exact ⟨rfl, Q⟩
 ·skip
  go_enter Try.func7, Try.ntmps7
  go_wp2_with fail
  refine (Hk0.out _).mono ?_
  rintro e v1 ⟨rfl, q⟩
  have Q := q
  clear q
  go_wp2_with fail
  refine (Hp1.out _).mono ?_
  rintro e v2 ⟨rfl, q⟩
  have Q := Q.trans (q.mono Q.size)
  clear q
  go_wp2_with fail
  refine (Hc1.out _).mono ?_
  rintro e v3 ⟨rfl, q⟩
  have Q := Q.trans (q.mono Q.size)
  clear q
  go_wp2_with fail
  refine (Hc2.out _).mono ?_
  rintro e v4 ⟨rfl, q⟩
  have Q := Q.trans (q.mono Q.size)
  clear q
  go_wp2_with fail
  refine (Hc3.out _).mono ?_
  rintro e v5 ⟨rfl, q⟩
  have Q := Q.trans (q.mono Q.size)
  clear q
  go_wp2_with fail
  refine (Ho1.out _).mono ?_
  rintro e v6 ⟨rfl, q⟩
  have Q := Q.trans (q.mono Q.size)
  clear q
  go_wp2_with fail
  refine (Ho2.out _).mono ?_
  rintro e v7 ⟨rfl, q⟩
  have Q := Q.trans (q.mono Q.size)
  clear q
  go_wp2_with fail
  refine (Hn1.out _).mono ?_
  rintro e v8 ⟨rfl, q⟩
  have Q := Q.trans (q.mono Q.size)
  clear q
  go_wp2_with fail
  refine (Ho1.out _).mono ?_
  rintro e v9 ⟨rfl, q⟩
  have Q := Q.trans (q.mono Q.size)
  clear q
  go_wp2_with fail
  refine (Ho3.out _).mono ?_
  rintro e v10 ⟨rfl, q⟩
  have Q := Q.trans (q.mono Q.size)
  clear q
  go_wp2_with fail
  refine (Hn2.out _).mono ?_
  rintro e v11 ⟨rfl, q⟩
  have Q := Q.trans (q.mono Q.size)
  clear q
  go_wp2
  go_ret
  exact ⟨rfl, Q⟩
theorem costs_any (x : Int) (hx : I64 x) : Ret Try.prog 7 #[.int .i64 x] (.bool true) := by
 obtain ⟨g0, g1⟩ := pickN_range x 32766 (by decide)
 have p1 := pick_ret x hx 32766 (by decide) (by decide)
 obtain ⟨n, hn⟩ : ∃ n : Nat, pickN x 32766 = (n : Int) := ⟨(pickN x 32766).toNat, by omega⟩
 rw [hn] at p1 g0 g1
 have lv : ∀ y : Int, 0 ≤ y → y ≤ 32768 → costN y = 3 * y + y * y / 512 := fun y h0 h1 => by unfold costN limV; rw [if_neg (by omega), if_neg (by omega)]
 have e0 := lv (n : Int) (by omega) (by omega)
 have e1 := lv ((n : Int) + 1) (by omega) (by omega)
 have e2 := lv ((n : Int) + 2) (by omega) (by omega)
 have s1 : ((n : Int) + 1) * ((n : Int) + 1) = (n : Int) * (n : Int) + (2 * (n : Int) + 1) := by rw [Int.add_mul, Int.mul_add]; omega
 have s2 : ((n : Int) + 2) * ((n : Int) + 2) = (n : Int) * (n : Int) + (4 * (n : Int) + 4) := by rw [Int.add_mul, Int.mul_add]; omega
 rw [s1] at e1
 rw [s2] at e2
 have q0 : 0 ≤ (n : Int) * (n : Int) := Int.mul_nonneg (by omega) (by omega)
 have q1 : (n : Int) * (n : Int) ≤ 32765 * 32765 := Int.mul_le_mul (by omega) (by omega) (by omega) (by decide)
 generalize (n : Int) * (n : Int) = q at *
 have n1 := needR (32 * n) 32 (by omega) (by decide)
 have n2 := needR (32 * n) 1048576 (by omega) (by decide)
 have o1 := ofR (32 * n) (by omega)
 rw [Int.natCast_mul] at n1 n2 o1
 have v1 : needV (32 * n) 32 = .tuple #[.int .i64 ((n : Int) + 1), .bool true] := by
  unfold needV
  rw [if_neg (by decide), if_pos (by omega), show (((32 * n + 32 + 31) / 32 : Nat) : Int) = (n : Int) + 1 by omega]
 have v2 : ∃ r : Int, needV (32 * n) 1048576 = .tuple #[.int .i64 r, .bool ((n : Int) == 0)] := by
  unfold needV
  rw [if_neg (by decide)]
  by_cases h : n = 0
  ·subst h; exact ⟨_, rfl⟩
  ·rw [if_neg (by omega)]
   exact ⟨0, by rw [show (((n : Int) == 0) = false) from by simpa using h]⟩
 obtain ⟨r, v2⟩ := v2
 rw [v1] at n1
 rw [v2] at n2
 exact costs_walk x (n : Int) _ _ _ r _ awake_ret (by omega) (by omega) (by rw [e0]; omega) (by rw [e1]; omega) (by rw [e2]; omega) (by rw [e0, e1]; omega) (by rw [e1, e2]; omega) (by rw [e0, e2]; omega) (by rw [e0, e1]; omega) rfl p1
  (cost_ret _) (cost_ret _) (cost_ret _) o1 (ofR 32 (by decide)) (ofR 1048576 (by decide)) n1 n2
end
section
open Go Go.ChangeShapes Go.WideShapes Go.ChangeAt Go.RowKit
theorem ownNone : ownKnob Try.prog.godebug = none := by kernel_rfl
theorem cellsU64 : Try.prog.cellsOf 22 = 1 := by kernel_rfl
theorem cellsWord : Try.prog.cellsOf 24 = 4 := by kernel_rfl
theorem list4 {α : Type} (l : List α) (h : (⟨l⟩ : Array α).size = 4) : ∃ a b c d, l = [a, b, c, d] := by
 match l, h with
 | [a, b, c, d], _ => exact ⟨a, b, c, d, rfl⟩
theorem u64_of_wf {x : Int} (h : (Lit.int .u64 x).wf = true) : U64 x := by
 have := bounds_u64 h
 unfold U64; omega
theorem word_of (x0 x1 x2 x3 : Int) (h0 : U64 x0) (h1 : U64 x1) (h2 : U64 x2) (h3 : U64 x3) : ∃ n, W256 n ∧ wv n = .agg #[.int .u64 x0, .int .u64 x1, .int .u64 x2, .int .u64 x3] := by
 obtain ⟨z, z0, z1, z2, z3⟩ : ∃ z : Nat → Int, z 0 = x0 ∧ z 1 = x1 ∧ z 2 = x2 ∧ z 3 = x3 := ⟨fun k => if k = 0 then x0 else if k = 1 then x1 else if k = 2 then x2 else x3, rfl, rfl, rfl, rfl⟩
 subst z0 z1 z2 z3
 obtain ⟨g0, g1⟩ := num_lt z h0 h1 h2 h3
 have en : num z = ((num z).toNat : Int) := (Int.toNat_of_nonneg g0).symm
 have e := lim_num z (num z).toNat h0 h1 h2 h3 en
 refine ⟨_, ?_, wv_of e⟩
 unfold W256
 rw [en] at g1
 exact Int.ofNat_lt.1 g1
theorem open_word {H : Type} {enc : TypeId × Value → H} {W : World} {base b : Nat} {sp : Nat → Bool} {held : Bool} {v : Value} {d : DataW H} {ps : List MemPlace}
  (hval : Value.okWide Try.prog W .any base 24 v) (hd : DataW.Trod enc Try.prog W b sp held 24 v d ps) :
  ∃ n, W256 n ∧ v = wv n ∧ ps = [] ∧ ∀ (W' : World) (b' : Nat) (sp' : Nat → Bool) (held' : Bool), DataW.Trod enc Try.prog W' b' sp' held' 24 (wv n) d [] := by
 obtain ⟨cs, rfl, hsz, _⟩ : ∃ cs, v = .agg cs ∧ cs.size = Try.prog.cellsOf 24 ∧ Row.okWide Try.prog W .any base 24 cs := by
  simpa [Value.okWide, Try.underlying24] using hval
 rw [cellsWord] at hsz
 obtain ⟨l⟩ := cs
 obtain ⟨c0, c1, c2, c3, rfl⟩ := list4 l hsz
 obtain ⟨fuel, hf⟩ := hd
 obtain ⟨y0, y1, y2, y3, m, hx, hy0, hy1, hy2, hy3⟩ := trod_array4 Try.underlying24 cellsU64 hf
 obtain ⟨x0, e0, rfl, w0⟩ := DataW.trod_int Try.underlying22 hy0
 obtain ⟨x1, e1, rfl, w1⟩ := DataW.trod_int Try.underlying22 hy1
 obtain ⟨x2, e2, rfl, w2⟩ := DataW.trod_int Try.underlying22 hy2
 obtain ⟨x3, e3, rfl, w3⟩ := DataW.trod_int Try.underlying22 hy3
 simp at e0 e1 e2 e3
 subst e0 e1 e2 e3
 simp only [Prod.mk.injEq] at hx
 obtain ⟨rfl, rfl⟩ := hx
 obtain ⟨n, hn, hv⟩ := word_of x0 x1 x2 x3 (u64_of_wf w0) (u64_of_wf w1) (u64_of_wf w2) (u64_of_wf w3)
 refine ⟨n, hn, hv.symm, rfl, fun W' b' sp' held' => ?_⟩
 rw [hv]
 exact ⟨2, by simp [DataW.trod, Value.cells, Try.underlying24, Try.underlying22, cellsWord, cellsU64, w0, w1, w2, w3, show List.range 4 = [0, 1, 2, 3] from rfl]⟩
theorem post_true {H : Type} {enc : TypeId × Value → H} {f : Func} {s : ChangeSpec} {W W' : World} {args : Array Value} {ds : List (DataW H)}
  (hW : DataW.Whole enc Try.prog f.params.toList s.vars false W args.toList ds [] []) (hvars : s.vars = []) (hft : f.resultTypes = #[4])
  (hfn : s.fn H ds = { results := [.lit (.bool true)], args := ds })
  (hargs : ∀ (W' : World) (b : Nat) (sp : Nat → Bool) (held : Bool), DataW.TrodAll enc Try.prog W' b sp held f.params.toList args.toList ds [])
  (hb : Below W.heap.size W W') : s.post enc Try.prog f false true false false W args (.bool true) W' := by
 have e : (s.fn H (ds ++ [])) = { results := [.lit (.bool true)], args := ds } := by rw [List.append_nil]; exact hfn
 refine ⟨ds, [], [], [], [], [], hW, ?_, ?_, ?_, World.keptBut_mono (fun p hp => absurd hp (by simp)) (hb.frame (fun _ => False)), fun h => by cases h⟩
 ·rw [e, hft]
  exact trodAll_mk1 (shut_bool Try.underlying4 _)
 ·rw [e]
  exact hargs _ _ _ _
 ·rw [e, hvars]
  rfl
theorem i64_of_wf {x : Int} (h : (Lit.int .i64 x).wf = true) : I64 x := by
 have := bounds_i64 h
 unfold I64; omega
end
section
open Go Go.RowKit
attribute [local go_sem] Oper.semAt_some Grows wide_fn
def repS (s : ByteArray) (n : Nat) : Nat → ByteArray → ByteArray
 | 0, x => x
 | f + 1, x => if x.size < n ∧ 0 < s.size then repS s n f (x ++ s) else x
def padS (n : Nat) : Nat → ByteArray → ByteArray
 | 0, x => x
 | f + 1, x => if x.size < n then padS n f (x ++ ⟨#[0]⟩) else x
theorem padS_size (n : Nat) : ∀ (f : Nat) (x : ByteArray), n ≤ x.size + f → n ≤ (padS n f x).size
 | 0, x, h => by unfold padS; omega
 | f + 1, x, h => by
  unfold padS
  split
  ·exact padS_size n f _ (by rw [ByteArray.size_append]; show n ≤ x.size + 1 + f; omega)
  ·omega
def memS (s : ByteArray) (c : Int) : ByteArray := (padS (32 * (pickN c 17).toNat) 1024 (repS s (32 * (pickN c 17).toNat) 1024 s)).extract 0 (32 * (pickN c 17).toNat)
theorem memS_size (s : ByteArray) (c : Int) : (memS s c).size = 32 * (pickN c 17).toNat := by
 have h0 := pickN_range c 17 (by decide)
 have h := padS_size (32 * (pickN c 17).toNat) 1024 (repS s (32 * (pickN c 17).toNat) 1024 s) (by omega)
 unfold memS
 rw [ByteArray.size_extract]
 omega
theorem mem_ret (s : ByteArray) (hs : s.size ≤ 70368744177664) (c : Int) (hc : I64 c) : Ret Try.prog 15 #[.string s, .int .i64 c] (.string (memS s c)) := by
 intro w
 have H0 := hid (pick_ret c hc 17 (by decide) (by decide))
 obtain ⟨g0, g1⟩ := pickN_range c 17 (by decide)
 unfold memS
 obtain ⟨p, hp⟩ : ∃ p : Nat, pickN c 17 = (p : Int) := ⟨(pickN c 17).toNat, by omega⟩
 rw [hp, Int.toNat_natCast]
 rw [hp] at H0 g0 g1
 have hn : 32 * p ≤ 512 := by omega
 have en : 32 * (p : Int) = ((32 * p : Nat) : Int) := by omega
 obtain ⟨n, hnn⟩ : ∃ n : Nat, 32 * p = n := ⟨_, rfl⟩
 rw [hnn] at hn en ⊢
 clear hp hnn g0
 obtain ⟨R, hR⟩ : ∃ R, repS s n 1024 s = R := ⟨_, rfl⟩
 obtain ⟨T, hT⟩ : ∃ T, padS n 1024 R = T := ⟨_, rfl⟩
 have hts : n ≤ T.size := by rw [← hT]; exact padS_size n 1024 R (by omega)
 rw [hR, hT]
 have HR := hid hR
 have HT := hid hT
 clear hR hT
 go_enter Try.func15, Try.ntmps15
 go_wp2_with fail
 refine (H0.out _).mono ?_
 rintro e w1 ⟨rfl, q1⟩
 go_wp2
 go_loopw [6] (fun i wr => w1 = wr ∧ ∃ (f : Nat) (x : ByteArray), i = .string x ∧ s.size ≤ x.size ∧ x.size ≤ 70368744177664 ∧ Hid (n ≤ x.size + f) ∧ Hid (repS s n f x = R)) (fun i _ => match i with | .string x => n - x.size | _ => 0)
 case atStart => exact ⟨rfl, 1024, s, rfl, Nat.le_refl _, hs, (by show _ ≤ _; omega), HR.out⟩
 case round =>
  obtain ⟨rfl, f, x, rfl, hx, hx2, hf, hr⟩ := hrel
  by_cases h1 : x.size < n
  ·have h1' : (x.size : Int) < (n : Int) := by omega
   by_cases h2 : 0 < s.size
   ·have h2' : (0 : Int) < (s.size : Int) := by omega
    have h3 : x.size + s.size ≤ 1024 := by omega
    have hf0 : ∃ f', f = f' + 1 := by
     cases f with
     | zero => have := hf.out; omega
     | succ f' => exact ⟨f', rfl⟩
    obtain ⟨f', rfl⟩ := hf0
    have hr2 : Hid (repS s n f' (x ++ s) = R) := by
     have h := hr.out
     unfold repS at h
     rw [if_pos ⟨h1, h2⟩] at h
     exact h
    clear hr
    go_wp2
    go_roundw
    case rel => exact ⟨by trivial, f', x ++ s, rfl, by rw [ByteArray.size_append]; omega, by rw [ByteArray.size_append]; omega, (by have := hf.out; show _ ≤ _; rw [ByteArray.size_append]; omega), hr2⟩
    case measure => simp [ByteArray.size_append]; omega
   ·have h2' : ¬ (0 : Int) < (s.size : Int) := by omega
    have hRx : Hid (x = R) := by
     have h := hr.out
     cases f with
     | zero => exact h
     | succ f' => unfold repS at h; rw [if_neg (fun h' => h2 h'.2)] at h; exact h
    obtain rfl := hRx.out
    clear hr hf hRx
    go_wp2
    go_loopw [6] (fun i wr => w1 = wr ∧ ∃ (f : Nat) (x : ByteArray), i = .string x ∧ x.size ≤ 70368744177664 ∧ Hid (n ≤ x.size + f) ∧ Hid (padS n f x = T)) (fun i _ => match i with | .string x => n - x.size | _ => 0)
    case atStart => exact ⟨rfl, 1024, x, rfl, hx2, (by show _ ≤ _; omega), HT.out⟩
    case round =>
     obtain ⟨rfl, f, y, rfl, hy2, hf, hr⟩ := hrel
     by_cases h1 : y.size < n
     ·have h1' : (y.size : Int) < (n : Int) := by omega
      have hf0 : ∃ f', f = f' + 1 := by
       cases f with
       | zero => have := hf.out; omega
       | succ f' => exact ⟨f', rfl⟩
      obtain ⟨f', rfl⟩ := hf0
      have hr2 : Hid (padS n f' (y ++ ⟨#[0]⟩) = T) := by
       have h := hr.out
       unfold padS at h
       rw [if_pos h1] at h
       exact h
      have hs1 : (⟨#[0]⟩ : ByteArray).size = 1 := rfl
      clear hr
      go_wp2
      go_roundw
      case rel => exact ⟨by trivial, f', y ++ ⟨#[0]⟩, rfl, by rw [ByteArray.size_append, hs1]; omega, (by have := hf.out; show _ ≤ _; rw [ByteArray.size_append, hs1]; omega), hr2⟩
      case measure => simp [ByteArray.size_append]; omega
     ·have h1' : ¬ (y.size : Int) < (n : Int) := by omega
      have hTy : Hid (y = T) := by
       have h := hr.out
       cases f with
       | zero => exact h
       | succ f' => unfold padS at h; rw [if_neg h1] at h; exact h
      obtain rfl := hTy.out
      clear hr hf hTy
      go_wp2
      go_ret
      exact ⟨rfl, q1⟩
  ·have h1' : ¬ (x.size : Int) < (n : Int) := by omega
   have hRx : Hid (x = R) := by
    have h := hr.out
    cases f with
    | zero => exact h
    | succ f' => unfold repS at h; rw [if_neg (fun h' => h1 h'.1)] at h; exact h
   obtain rfl := hRx.out
   clear hr hf hRx
   go_wp2
   go_loopw [6] (fun i wr => w1 = wr ∧ ∃ (f : Nat) (x : ByteArray), i = .string x ∧ x.size ≤ 70368744177664 ∧ Hid (n ≤ x.size + f) ∧ Hid (padS n f x = T)) (fun i _ => match i with | .string x => n - x.size | _ => 0)
   case atStart => exact ⟨rfl, 1024, x, rfl, hx2, (by show _ ≤ _; omega), HT.out⟩
   case round =>
    obtain ⟨rfl, f, y, rfl, hy2, hf, hr⟩ := hrel
    by_cases h1 : y.size < n
    ·have h1' : (y.size : Int) < (n : Int) := by omega
     have hf0 : ∃ f', f = f' + 1 := by
      cases f with
      | zero => have := hf.out; omega
      | succ f' => exact ⟨f', rfl⟩
     obtain ⟨f', rfl⟩ := hf0
     have hr2 : Hid (padS n f' (y ++ ⟨#[0]⟩) = T) := by
      have h := hr.out
      unfold padS at h
      rw [if_pos h1] at h
      exact h
     have hs1 : (⟨#[0]⟩ : ByteArray).size = 1 := rfl
     clear hr
     go_wp2
     go_roundw
     case rel => exact ⟨by trivial, f', y ++ ⟨#[0]⟩, rfl, by rw [ByteArray.size_append, hs1]; omega, (by have := hf.out; show _ ≤ _; rw [ByteArray.size_append, hs1]; omega), hr2⟩
     case measure => simp [ByteArray.size_append]; omega
    ·have h1' : ¬ (y.size : Int) < (n : Int) := by omega
     have hTy : Hid (y = T) := by
      have h := hr.out
      cases f with
      | zero => exact h
      | succ f' => unfold padS at h; rw [if_neg h1] at h; exact h
     obtain rfl := hTy.out
     clear hr hf hTy
     go_wp2
     go_ret
     exact ⟨rfl, q1⟩
end
section
open Go Go.RowKit
attribute [local go_sem] Oper.semAt_some Grows wide_fn eq4
theorem fullS_size (m : ByteArray) (n : Nat) : (fullS m n).size = max m.size n := by
 show (m.data.toList ++ List.replicate (n - m.size) (0 : UInt8)).toArray.size = _
 simp
 omega
theorem fullS_list (m : ByteArray) (n : Nat) : (fullS m n).data.toList = m.data.toList ++ List.replicate (n - m.size) 0 := rfl
theorem fullS_full (m : ByteArray) (a b : Nat) : fullS (fullS m a) b = fullS m (max a b) := by
 have h : (fullS (fullS m a) b).data.toList = (fullS m (max a b)).data.toList := by
  rw [fullS_list, fullS_list, fullS_list, fullS_size, List.append_assoc, List.replicate_append_replicate]
  congr 2
  omega
 exact ByteArray.ext (Array.toList_inj.1 h)
theorem fullS_head (m : ByteArray) (n : Nat) : (fullS m n).extract 0 m.size = m := by
 refine ByteArray.ext (Array.toList_inj.1 ?_)
 rw [extract_list, fullS_list]
 simp
theorem fullS_tail (m : ByteArray) (n k : Nat) (hk : m.size ≤ k) (h : k < (fullS m n).size) : ((fullS m n)[k]'h).toNat = 0 := by
 have e : (fullS m n).data.toList[k]? = some 0 := by
  rw [fullS_list, List.getElem?_append_right (by simpa using hk), List.getElem?_replicate]
  rw [if_pos]
  rw [fullS_size] at h
  simp
  omega
 have e2 : (fullS m n).data.toList[k]? = some ((fullS m n)[k]'h) := by
  rw [Array.getElem?_toList]
  exact Array.getElem?_eq_getElem h
 rw [e2] at e
 rw [Option.some.inj e]
 rfl
theorem grows_walk (s t m a b : ByteArray) (c one two x y z lo r ca cb : Int) (mm : Nat) (k0 : Ret Try.prog 8 #[] (.bool true)) (hmin : min (s.size : Int) 40 = (mm : Int)) (hmm : (mm : Int) ≤ (s.size : Int)) (ht : s.extract 0 mm = t) (x0 : 0 ≤ x ∧ x ≤ 59) (y0 : 0 ≤ y ∧ y ≤ 59) (hz : max x y = z) (hl : min x y = lo) (hlen : max (m.size : Int) (32 * x) = (a.size : Int)) (hpre : a.extract 0 m.size = m) (hms : m.size ≤ a.size) (has : a.size ≤ 100000) (hzero : ∀ k (h : k < a.size), m.size ≤ k → (a[k]'h).toNat = 0) (hle : ca ≤ cb) (hr : (y = 0 ∧ r = 0) ∨ (y ≠ 0 ∧ r = x + y)) (pm : Ret Try.prog 15 #[.string t, .int .i64 c] (.string m)) (px : Ret Try.prog 11 #[.int .i64 one, .int .i64 60] (.int .i64 x)) (py : Ret Try.prog 11 #[.int .i64 two, .int .i64 60] (.int .i64 y)) (ga : Ret Try.prog 16 #[.string m, .int .i64 x] (.tuple #[.string a, .int .i64 0])) (gb : Ret Try.prog 16 #[.string a, .int .i64 y] (.tuple #[.string b, .int .i64 0])) (gc : Ret Try.prog 16 #[.string m, .int .i64 z] (.tuple #[.string b, .int .i64 0])) (o1 : Ret Try.prog 12 #[.int .i64 (32 * x)] (.agg #[.int .u64 (32 * x), .int .u64 0, .int .u64 0, .int .u64 0])) (o2 : Ret Try.prog 12 #[.int .i64 (32 * y)] (.agg #[.int .u64 (32 * y), .int .u64 0, .int .u64 0, .int .u64 0])) (n1 : Ret Try.prog 13 #[.agg #[.int .u64 (32 * x), .int .u64 0, .int .u64 0, .int .u64 0], .agg #[.int .u64 (32 * y), .int .u64 0, .int .u64 0, .int .u64 0]] (.tuple #[.int .i64 r, .bool true])) (c1 : Ret Try.prog 9 #[.int .i64 lo] (.int .i64 ca)) (c2 : Ret Try.prog 9 #[.int .i64 z] (.int .i64 cb)) :
  Ret Try.prog 5 #[.string s, .int .i64 c, .int .i64 one, .int .i64 two] (.bool true) := by
 intro w
 obtain ⟨x0, x1⟩ := x0
 obtain ⟨y0, y1⟩ := y0
 have HZ := hid hzero
 have HR := hid hr
 have HE := hid hle
 clear hzero hr hle
 have Hk0 := hid k0
 have Hpm := hid pm
 have Hpx := hid px
 have Hpy := hid py
 have Hga := hid ga
 have Hgb := hid gb
 have Hgc := hid gc
 have Ho1 := hid o1
 have Ho2 := hid o2
 have Hn1 := hid n1
 have Hc1 := hid c1
 have Hc2 := hid c2
 clear k0 pm px py ga gb gc o1 o2 n1 c1 c2
 go_enter Try.func5, Try.ntmps5
 go_wp2_with fail
 refine (Hk0.out _).mono ?_
 rintro e v1 ⟨rfl, q⟩
 have Q := q
 clear q
 go_wp2_with fail
 refine (Hpm.out _).mono ?_
 rintro e v2 ⟨rfl, q⟩
 have Q := Q.trans (q.mono Q.size)
 clear q
 go_wp2_with fail
 refine (Hpx.out _).mono ?_
 rintro e v3 ⟨rfl, q⟩
 have Q := Q.trans (q.mono Q.size)
 clear q
 go_wp2_with fail
 refine (Hpy.out _).mono ?_
 rintro e v4 ⟨rfl, q⟩
 have Q := Q.trans (q.mono Q.size)
 clear q
 go_wp2_with fail
 refine (Hga.out _).mono ?_
 rintro e v5 ⟨rfl, q⟩
 have Q := Q.trans (q.mono Q.size)
 clear q
 go_wp2_with fail
 refine (Hgb.out _).mono ?_
 rintro e v6 ⟨rfl, q⟩
 have Q := Q.trans (q.mono Q.size)
 clear q
 go_wp2_with fail
 refine (Hgc.out _).mono ?_
 rintro e v7 ⟨rfl, q⟩
 have Q := Q.trans (q.mono Q.size)
 clear q
 have HQ := hid Q
 clear Q
 go_wp2
 have ms0 : (m.size : Int) ≤ (a.size : Int) := by omega
 go_loopw [19] (fun i wr => v7 = wr ∧ ∃ k : Nat, i = .int .i64 (k : Int) ∧ m.size ≤ k ∧ k ≤ a.size) (fun i _ => a.size - (intOf i).toNat)
 case atStart => exact ⟨rfl, m.size, rfl, Nat.le_refl _, hms⟩
 case round =>
  obtain ⟨rfl, k, rfl, hk1, hk2⟩ := hrel
  by_cases hlt : k < a.size
  ·have hI : (k : Int) < (a.size : Int) := by omega
   have hb : ((a[k]'hlt).toNat : Int) = 0 := by rw [HZ.out k hlt hk1]; rfl
   go_wp2
   go_roundw
   case rel => exact ⟨by trivial, k + 1, by simp, by omega, by omega⟩
   case measure => simp [intOf]; omega
  ·have hI : ¬ (k : Int) < (a.size : Int) := by omega
   clear hk1 hk2 hlt
   go_wp2_with fail
   have Q := HQ.out
   clear HQ HZ hlen hpre hms has ms0 hI hmin hmm ht
   skip
   refine (Ho1.out _).mono ?_
   rintro e v8 ⟨rfl, q⟩
   have Q := Q.trans (q.mono Q.size)
   clear q
   go_wp2_with fail
   refine (Ho2.out _).mono ?_
   rintro e v9 ⟨rfl, q⟩
   have Q := Q.trans (q.mono Q.size)
   clear q
   go_wp2_with fail
   refine (Hn1.out _).mono ?_
   rintro e v10 ⟨rfl, q⟩
   have Q := Q.trans (q.mono Q.size)
   clear q
   have HQ := hid Q
   clear Q
   go_wp2_with fail
   refine (Hc1.out _).mono ?_
   rintro e u1 ⟨rfl, q1⟩
   go_wp2_with fail
   refine (Hc2.out _).mono ?_
   rintro e u2 ⟨rfl, q2⟩
   have HF := hid ((HQ.out.trans (q1.mono HQ.out.size)).trans (q2.mono (HQ.out.trans (q1.mono HQ.out.size)).size))
   clear q1 q2
   have hle := HE.out
   obtain ⟨y2, r2⟩ | ⟨y2, r2⟩ := HR.out
   ·subst y2
    subst r2
    go_wp2
    go_ret
    exact ⟨rfl, HF.out⟩
   ·have y3 : (y == 0) = false := by simpa using y2
    have r3 : (r == x + y) = true := by simpa using r2
    clear y2 r2
    go_wp2
    go_ret
    exact ⟨rfl, HF.out⟩
theorem grow_any (m : ByteArray) (hm : m.size ≤ 1048576) (h32 : m.size % 32 = 0) (k : Nat) (hk : k ≤ 32768) : Ret Try.prog 16 #[.string m, .int .i64 (k : Int)] (.tuple #[.string (fullS m (32 * k)), .int .i64 0]) := by
 have h := grow_ret m (by omega) (k : Int)
 unfold growV at h
 rw [if_pos, Int.toNat_natCast] at h
 ·exact h
 ·unfold mayB limB
  rw [decide_eq_true hm, decide_eq_true h32, decide_eq_true (by omega)]; rfl
theorem costN_mono (a b : Int) (h0 : 0 ≤ a) (h : a ≤ b) (hb : b ≤ 32768) : costN a ≤ costN b := by
 have e : ∀ y : Int, 0 ≤ y → y ≤ 32768 → costN y = 3 * y + y * y / 512 := fun y h0 h1 => by unfold costN limV; rw [if_neg (by omega), if_neg (by omega)]
 rw [e a h0 (by omega), e b (by omega) hb]
 have hm : a * a ≤ b * b := Int.mul_le_mul h h h0 (by omega)
 generalize a * a = p at *
 generalize b * b = q at *
 omega
theorem cut40 (s : ByteArray) (n : Nat) : ∃ mm : Nat, min (s.size : Int) (n : Int) = (mm : Int) ∧ (mm : Int) ≤ (s.size : Int) ∧ (s.extract 0 mm).size ≤ n := ⟨min s.size n, by omega, by omega, by rw [ByteArray.size_extract]; omega⟩
theorem grows_any (s : ByteArray) (c one two : Int) (hc : I64 c) (h1 : I64 one) (h2 : I64 two) : Ret Try.prog 5 #[.string s, .int .i64 c, .int .i64 one, .int .i64 two] (.bool true) := by
 obtain ⟨mm, e1, e2, e3⟩ := cut40 s 40
 obtain ⟨x0, x1⟩ := pickN_range one 60 (by decide)
 obtain ⟨y0, y1⟩ := pickN_range two 60 (by decide)
 have px := pick_ret one h1 60 (by decide) (by decide)
 have py := pick_ret two h2 60 (by decide) (by decide)
 obtain ⟨x, hx⟩ : ∃ n : Nat, pickN one 60 = (n : Int) := ⟨(pickN one 60).toNat, by omega⟩
 obtain ⟨y, hy⟩ : ∃ n : Nat, pickN two 60 = (n : Int) := ⟨(pickN two 60).toNat, by omega⟩
 rw [hx] at px x0 x1
 rw [hy] at py y0 y1
 have pm := mem_ret (s.extract 0 mm) (by omega) c hc
 obtain ⟨c0, c1⟩ := pickN_range c 17 (by decide)
 have hms := memS_size (s.extract 0 mm) c
 have hm1 : (memS (s.extract 0 mm) c).size ≤ 512 := by omega
 have hm2 : (memS (s.extract 0 mm) c).size % 32 = 0 := by omega
 clear hms c0 c1
 generalize memS (s.extract 0 mm) c = m at *
 have ga := grow_any m (by omega) hm2 x (by omega)
 have hfs := fullS_size m (32 * x)
 have gb := grow_any (fullS m (32 * x)) (by omega) (by omega) y (by omega)
 rw [fullS_full] at gb
 have gc := grow_any m (by omega) hm2 (max x y) (by omega)
 rw [show 32 * max x y = max (32 * x) (32 * y) by omega] at gc
 have o1 := ofR (32 * x) (by omega)
 have o2 := ofR (32 * y) (by omega)
 have n1 := needR (32 * x) (32 * y) (by omega) (by omega)
 rw [Int.natCast_mul] at o1 o2 n1
 rw [Int.natCast_mul] at n1
 have v1 : ∃ r : Int, needV (32 * x) (32 * y) = .tuple #[.int .i64 r, .bool true] ∧ (((y : Int) = 0 ∧ r = 0) ∨ ((y : Int) ≠ 0 ∧ r = (x : Int) + (y : Int))) := by
  unfold needV
  by_cases h : y = 0
  ·subst h; exact ⟨0, rfl, .inl ⟨rfl, rfl⟩⟩
  ·rw [if_neg (by omega), if_pos (by omega)]
   exact ⟨_, rfl, .inr ⟨by omega, by omega⟩⟩
 obtain ⟨r, v1, hr⟩ := v1
 rw [v1] at n1
 exact grows_walk s _ m (fullS m (32 * x)) (fullS m (max (32 * x) (32 * y))) c one two x y ((max x y : Nat) : Int) ((min x y : Nat) : Int) r _ _ mm awake_ret e1 e2 rfl ⟨by omega, by omega⟩ ⟨by omega, by omega⟩ (by omega) (by omega) (by rw [hfs]; omega) (fullS_head m _) (by omega) (by omega)
  (fun k h hk => fullS_tail m _ k hk h) (costN_mono _ _ (by omega) (by omega) (by omega)) hr pm px py ga gb gc o1 o2 n1 (cost_ret _) (cost_ret _)
theorem ba_ext {a b : ByteArray} (h : a.data.toList = b.data.toList) : a = b := ByteArray.ext (Array.toList_inj.1 h)
theorem ba_len (a : ByteArray) : a.data.toList.length = a.size := by simp
theorem ba_at (a : ByteArray) (k : Nat) (h : k < a.size) : a.data.toList[k]? = some (a[k]'h) := by
 rw [Array.getElem?_toList]
 exact Array.getElem?_eq_getElem h
theorem pieceS_list (s : ByteArray) (a n : Nat) : (pieceS s a n).data.toList = (s.data.toList.drop a).take n ++ List.replicate (n - (s.size - a)) 0 := by
 unfold pieceS
 rw [fullS_list, extract_list, extract_list]
 simp only [ByteArray.size_extract]
 have e : (s.data.toList.drop (min a s.size)).take (s.size - min a s.size) = s.data.toList.drop a := by
  rw [List.take_of_length_le (by rw [List.length_drop, ba_len]; omega)]
  by_cases h : a ≤ s.size
  ·rw [Nat.min_eq_left h]
  ·rw [List.drop_of_length_le (by rw [ba_len]; omega), List.drop_of_length_le (by rw [ba_len]; omega)]
 rw [e, List.drop_zero]
 congr 1
 ·by_cases h : n ≤ s.size - a
  ·congr 1; omega
  ·rw [List.take_of_length_le (by rw [List.length_drop, ba_len]; omega), List.take_of_length_le (by rw [List.length_drop, ba_len]; omega)]
 ·congr 1; omega
theorem pieceS_size (s : ByteArray) (a n : Nat) : (pieceS s a n).size = n := by
 rw [← ba_len, pieceS_list, List.length_append, List.length_take, List.length_drop, ba_len, List.length_replicate]
 omega
theorem pieceS_two (s : ByteArray) (a m n : Nat) : pieceS s a m ++ pieceS s (a + m) n = pieceS s a (m + n) := by
 refine ba_ext ?_
 have e : (pieceS s a m ++ pieceS s (a + m) n).data.toList = (pieceS s a m).data.toList ++ (pieceS s (a + m) n).data.toList := by simp
 rw [e, pieceS_list, pieceS_list, pieceS_list]
 have hl := ba_len s
 generalize s.data.toList = l at *
 generalize s.size = L at *
 by_cases h : a + m ≤ L
 ·rw [Nat.sub_eq_zero_of_le (show m ≤ L - a by omega), List.replicate_zero, List.append_nil, ← List.append_assoc, ← List.drop_drop, ← List.take_add]
  congr 2
  omega
 ·rw [List.drop_of_length_le (show l.length ≤ a + m by omega), List.take_nil, List.nil_append, List.append_assoc, List.replicate_append_replicate, List.take_of_length_le (by rw [List.length_drop]; omega), List.take_of_length_le (by rw [List.length_drop]; omega)]
  congr 2
  omega
theorem pieceS_in (s : ByteArray) (a n k : Nat) (h : k < (pieceS s a n).size) (h2 : a + k < s.size) : (pieceS s a n)[k]'h = s[a + k]'h2 := by
 have hn := h
 rw [pieceS_size] at hn
 have e := ba_at _ k h
 rw [pieceS_list, List.getElem?_append_left (by rw [List.length_take, List.length_drop, ba_len]; omega), List.getElem?_take, if_pos hn, List.getElem?_drop, ba_at s (a + k) h2] at e
 exact (Option.some.inj e).symm
theorem pieceS_out (s : ByteArray) (a n k : Nat) (h : k < (pieceS s a n).size) (h2 : ¬ a + k < s.size) : ((pieceS s a n)[k]'h).toNat = 0 := by
 have hn := h
 rw [pieceS_size] at hn
 have e := ba_at _ k h
 rw [pieceS_list, List.getElem?_append_right (by rw [List.length_take, List.length_drop, ba_len]; omega), List.getElem?_replicate, if_pos (by rw [List.length_take, List.length_drop, ba_len]; omega)] at e
 rw [← Option.some.inj e]
 rfl
theorem pieces_walk (s x p q r z d : ByteArray) (c m n : Int) (f a b mm : Nat) (k0 : Ret Try.prog 8 #[] (.bool true)) (hmin : min (s.size : Int) 90 = (mm : Int)) (hmm : (mm : Int) ≤ (s.size : Int)) (ht : s.extract 0 mm = x) (hf : f ≤ 119) (ha : a ≤ 59) (hb : b ≤ 59) (hxs : x.size ≤ 90) (hpq : q ++ r = p) (hqs : q.size ≤ 59) (hrs : r.size ≤ 59) (hps : (p.size : Int) = (a : Int) + (b : Int)) (hin : ∀ k (h : k < p.size) (h2 : f + k < x.size), p[k]'h = x[f + k]'h2) (hout : ∀ k (h : k < p.size), ¬ f + k < x.size → (p[k]'h).toNat = 0) (pf : Ret Try.prog 11 #[.int .i64 c, .int .i64 120] (.int .i64 (f : Int))) (pa : Ret Try.prog 11 #[.int .i64 m, .int .i64 60] (.int .i64 (a : Int))) (pb : Ret Try.prog 11 #[.int .i64 n, .int .i64 60] (.int .i64 (b : Int))) (o1 : Ret Try.prog 12 #[.int .i64 (f : Int)] (.agg #[.int .u64 (f : Int), .int .u64 0, .int .u64 0, .int .u64 0])) (o2 : Ret Try.prog 12 #[.int .i64 ((f : Int) + (a : Int))] (.agg #[.int .u64 ((f : Int) + (a : Int)), .int .u64 0, .int .u64 0, .int .u64 0])) (p1 : Ret Try.prog 28 #[.string x, .agg #[.int .u64 (f : Int), .int .u64 0, .int .u64 0, .int .u64 0], .int .i64 ((a : Int) + (b : Int))] (.tuple #[.string p, .int .i64 0])) (p2 : Ret Try.prog 28 #[.string x, .agg #[.int .u64 (f : Int), .int .u64 0, .int .u64 0, .int .u64 0], .int .i64 (a : Int)] (.tuple #[.string q, .int .i64 0])) (p3 : Ret Try.prog 28 #[.string x, .agg #[.int .u64 ((f : Int) + (a : Int)), .int .u64 0, .int .u64 0, .int .u64 0], .int .i64 (b : Int)] (.tuple #[.string r, .int .i64 0])) (g1 : Ret Try.prog 16 #[.string ⟨#[]⟩, .int .i64 8] (.tuple #[.string z, .int .i64 0])) (cp : Ret Try.prog 24 #[.string z, .int .i64 (f : Int), .string p] (.tuple #[.string d, .int .i64 0])) (sl : Ret Try.prog 26 #[.string d, .int .i64 (f : Int), .int .i64 ((a : Int) + (b : Int))] (.tuple #[.string p, .int .i64 0])) :
  Ret Try.prog 6 #[.string s, .int .i64 c, .int .i64 m, .int .i64 n] (.bool true) := by
 intro w
 have HI := hid hin
 have HO := hid hout
 clear hin hout
 have Hk0 := hid k0
 have Hpf := hid pf
 have Hpa := hid pa
 have Hpb := hid pb
 have Ho1 := hid o1
 have Ho2 := hid o2
 have Hp1 := hid p1
 have Hp2 := hid p2
 have Hp3 := hid p3
 have Hg1 := hid g1
 have Hcp := hid cp
 have Hsl := hid sl
 clear k0 pf pa pb o1 o2 p1 p2 p3 g1 cp sl
 go_enter Try.func6, Try.ntmps6
 go_wp2_with fail
 refine (Hk0.out _).mono ?_
 rintro e v1 ⟨rfl, q⟩
 have Q := q
 clear q
 go_wp2_with fail
 refine (Hpf.out _).mono ?_
 rintro e v2 ⟨rfl, q⟩
 have Q := Q.trans (q.mono Q.size)
 clear q
 go_wp2_with fail
 refine (Hpa.out _).mono ?_
 rintro e v3 ⟨rfl, q⟩
 have Q := Q.trans (q.mono Q.size)
 clear q
 go_wp2_with fail
 refine (Hpb.out _).mono ?_
 rintro e v4 ⟨rfl, q⟩
 have Q := Q.trans (q.mono Q.size)
 clear q
 go_wp2_with fail
 refine (Ho1.out _).mono ?_
 rintro e v5 ⟨rfl, q⟩
 have Q := Q.trans (q.mono Q.size)
 clear q
 go_wp2_with fail
 refine (Hp1.out _).mono ?_
 rintro e v6 ⟨rfl, q⟩
 have Q := Q.trans (q.mono Q.size)
 clear q
 go_wp2_with fail
 refine (Ho1.out _).mono ?_
 rintro e v7 ⟨rfl, q⟩
 have Q := Q.trans (q.mono Q.size)
 clear q
 go_wp2_with fail
 refine (Hp2.out _).mono ?_
 rintro e v8 ⟨rfl, q⟩
 have Q := Q.trans (q.mono Q.size)
 clear q
 go_wp2_with fail
 refine (Ho2.out _).mono ?_
 rintro e v9 ⟨rfl, q⟩
 have Q := Q.trans (q.mono Q.size)
 clear q
 go_wp2_with fail
 refine (Hp3.out _).mono ?_
 rintro e v10 ⟨rfl, q⟩
 have Q := Q.trans (q.mono Q.size)
 clear q
 have HQ := hid Q
 clear Q
 go_wp2
 go_loopw [20] (fun i wr => v10 = wr ∧ ∃ k : Nat, i = .int .i64 (k : Int) ∧ k ≤ p.size) (fun i _ => p.size - (intOf i).toNat)
 case atStart => exact ⟨rfl, 0, rfl, Nat.zero_le _⟩
 case round =>
  obtain ⟨rfl, k, rfl, hk2⟩ := hrel
  by_cases hlt : k < p.size
  ·have hI : (k : Int) < (a : Int) + (b : Int) := by omega
   have hkI : (k : Int) < (p.size : Int) := by omega
   obtain ⟨fk, hfk⟩ : ∃ fk : Nat, (f : Int) + (k : Int) = (fk : Int) := ⟨f + k, by omega⟩
   obtain rfl : fk = f + k := by omega
   by_cases h2 : f + k < x.size
   ·have hb : ((p[k]'hlt).toNat : Int) = ((x[f + k]'h2).toNat : Int) := by rw [HI.out k hlt h2]
    have h2I : ((f + k : Nat) : Int) < (x.size : Int) := by omega
    generalize f + k = fk at *
    go_wp2
    go_roundw
    case rel => exact ⟨by trivial, k + 1, by simp, by omega⟩
    case measure => simp [intOf]; omega
   ·have hb : ((p[k]'hlt).toNat : Int) = 0 := by rw [HO.out k hlt h2]; rfl
    have h2I : ¬ ((f + k : Nat) : Int) < (x.size : Int) := by omega
    generalize f + k = fk at *
    go_wp2
    go_roundw
    case rel => exact ⟨by trivial, k + 1, by simp, by omega⟩
    case measure => simp [intOf]; omega
  ·have hI : ¬ (k : Int) < (a : Int) + (b : Int) := by omega
   clear hk2 hlt
   go_wp2_with fail
   have Q := HQ.out
   clear HQ HI HO hmin hmm ht hpq hqs hrs
   skip
   refine (Hg1.out _).mono ?_
   rintro e v11 ⟨rfl, q⟩
   have Q := Q.trans (q.mono Q.size)
   clear q
   go_wp2_with fail
   refine (Hcp.out _).mono ?_
   rintro e v12 ⟨rfl, q⟩
   have Q := Q.trans (q.mono Q.size)
   clear q
   go_wp2_with fail
   refine (Hsl.out _).mono ?_
   rintro e v13 ⟨rfl, q⟩
   have Q := Q.trans (q.mono Q.size)
   clear q
   go_wp2
   go_ret
   exact ⟨rfl, Q⟩
theorem overS_cut (m s : ByteArray) (k : Nat) (h : k + s.size ≤ m.size) : (overS m k s).extract k (k + s.size) = s := by
 refine ba_ext ?_
 rw [extract_list]
 show ((m.data.toList.take k ++ (s.data.toList ++ m.data.toList.drop (k + s.size))).drop k).take _ = _
 rw [List.drop_append_of_le_length (by rw [List.length_take, ba_len]; omega), List.drop_of_length_le (by rw [List.length_take]; omega), List.nil_append, show k + s.size - k = s.data.toList.length by rw [ba_len]; omega, List.take_left']
 rfl
theorem overS_size (m s : ByteArray) (k : Nat) (h : k + s.size ≤ m.size) : (overS m k s).size = m.size := by
 rw [← ba_len]
 show (m.data.toList.take k ++ (s.data.toList ++ m.data.toList.drop (k + s.size))).length = _
 rw [List.length_append, List.length_append, List.length_take, List.length_drop, ba_len, ba_len]
 omega
theorem there_yes (m : ByteArray) (hm : m.size ≤ 1048576) (h32 : m.size % 32 = 0) (k n : Nat) (h : k + n ≤ m.size) : thereB m (k : Int) (n : Int) = true := by
 unfold thereB mayB
 rw [decide_eq_true hm, decide_eq_true h32, decide_eq_true (by omega)]
 rfl
theorem copy_any (m s : ByteArray) (hm : m.size ≤ 1048576) (h32 : m.size % 32 = 0) (k : Nat) (h : k + s.size ≤ m.size) : Ret Try.prog 24 #[.string m, .int .i64 (k : Int), .string s] (.tuple #[.string (overS m k s), .int .i64 0]) := by
 have h1 := copy_ret m s (by omega) (k : Int)
 unfold copyV at h1
 rw [if_pos (there_yes m hm h32 k s.size h), Int.toNat_natCast] at h1
 exact h1
theorem slice_any (m : ByteArray) (hm : m.size ≤ 1048576) (h32 : m.size % 32 = 0) (k n : Nat) (h : k + n ≤ m.size) : Ret Try.prog 26 #[.string m, .int .i64 (k : Int), .int .i64 (n : Int)] (.tuple #[.string (m.extract k (k + n)), .int .i64 0]) := by
 have h1 := slice_ret m (by omega) (k : Int) (n : Int)
 unfold sliceV at h1
 rw [if_pos (there_yes m hm h32 k n h), Int.toNat_natCast, show ((k : Int) + (n : Int)).toNat = k + n by omega] at h1
 exact h1
theorem pieceN (s : ByteArray) (hs : s.size ≤ 70368744177664) (a : Nat) (ha : a ≤ 9223372036854775807) (n : Nat) (hn : n ≤ 1048576) : Ret Try.prog 28 #[.string s, .agg #[.int .u64 (a : Int), .int .u64 0, .int .u64 0, .int .u64 0], .int .i64 (n : Int)] (.tuple #[.string (pieceS s a n), .int .i64 0]) := by
 have h := pieceR s hs a ha (n : Int)
 unfold pieceV at h
 rw [if_pos (by unfold limB; exact decide_eq_true (by omega)), Int.toNat_natCast] at h
 exact h
theorem pieces_any12 (s : ByteArray) (c m n : Int) (hc : I64 c) (h1 : I64 m) (h2 : I64 n) : Ret Try.prog 6 #[.string s, .int .i64 c, .int .i64 m, .int .i64 n] (.bool true) := by
 obtain ⟨mm, e1, e2, e3⟩ := cut40 s 90
 obtain ⟨f0, f1⟩ := pickN_range c 120 (by decide)
 obtain ⟨a0, a1⟩ := pickN_range m 60 (by decide)
 obtain ⟨b0, b1⟩ := pickN_range n 60 (by decide)
 have pf := pick_ret c hc 120 (by decide) (by decide)
 have pa := pick_ret m h1 60 (by decide) (by decide)
 have pb := pick_ret n h2 60 (by decide) (by decide)
 obtain ⟨f, hf⟩ : ∃ k : Nat, pickN c 120 = (k : Int) := ⟨(pickN c 120).toNat, by omega⟩
 obtain ⟨a, ha⟩ : ∃ k : Nat, pickN m 60 = (k : Int) := ⟨(pickN m 60).toNat, by omega⟩
 obtain ⟨b, hb⟩ : ∃ k : Nat, pickN n 60 = (k : Int) := ⟨(pickN n 60).toNat, by omega⟩
 rw [hf] at pf f0 f1
 rw [ha] at pa a0 a1
 rw [hb] at pb b0 b1
 obtain ⟨x, hx⟩ : ∃ x, s.extract 0 mm = x := ⟨_, rfl⟩
 rw [hx] at e3
 have hz : (fullS ⟨#[]⟩ 256).size = 256 := by rw [fullS_size]; rfl
 have hps := pieceS_size x f (a + b)
 have p1 := pieceN x (by omega) f (by omega) (a + b) (by omega)
 have p2 := pieceN x (by omega) f (by omega) a (by omega)
 have p3 := pieceN x (by omega) (f + a) (by omega) b (by omega)
 have o2 := ofR (f + a) (by omega)
 have g1 := grow_any ⟨#[]⟩ (by decide) (by decide) 8 (by decide)
 have cp := copy_any (fullS ⟨#[]⟩ 256) (pieceS x f (a + b)) (by omega) (by omega) f (by omega)
 have hos := overS_size (fullS ⟨#[]⟩ 256) (pieceS x f (a + b)) f (by omega)
 have sl := slice_any (overS (fullS ⟨#[]⟩ 256) f (pieceS x f (a + b))) (by omega) (by omega) f (a + b) (by omega)
 have hcut := overS_cut (fullS ⟨#[]⟩ 256) (pieceS x f (a + b)) f (by omega)
 rw [hps] at hcut
 rw [hcut] at sl
 rw [Int.natCast_add] at p1 p3 o2 sl
 exact pieces_walk s x (pieceS x f (a + b)) (pieceS x f a) (pieceS x (f + a) b) (fullS ⟨#[]⟩ 256) _ c m n f a b mm awake_ret e1 e2 hx (by omega) (by omega) (by omega) e3 (pieceS_two x f a b) (by rw [pieceS_size]; omega) (by rw [pieceS_size]; omega) (by rw [hps]; omega)
  (fun k h h2 => pieceS_in x f _ k h h2) (fun k h h2 => pieceS_out x f _ k h h2) pf pa pb (ofR f (by omega)) o2 p1 p2 p3 g1 cp sl
end
section
open Go Go.RowKit Go.Shelf
attribute [local go_sem] Oper.semAt_some Grows wide_fn

theorem infoB : (Try.prog.info? 5).map (fun i => (i.zero, i.size, i.bytes)) = some (some (.int .u8 0), 1, 1) := by kernel_rfl
def byteL (a : Nat) : List Nat := (List.range 32).map fun j => byteN a (31 - j)
theorem byteL_length (a : Nat) : (byteL a).length = 32 := by simp [byteL]
theorem bytesOf_list (a : Nat) : (bytesOf a).data.toList = (byteL a).map UInt8.ofNat := by
 unfold bytesOf strOfNums byteL
 simp [Function.comp_def]
end
section
open Go Go.RowKit
theorem byte_step (a t : Nat) : a / 256 ^ (t + 1) * 256 + byteN a t = a / 256 ^ t := by
 unfold byteN
 rw [Nat.pow_succ, ← Nat.div_div_eq_div_mul]
 omega
theorem byteL_take (a : Nat) : ∀ k, k ≤ 32 → octVal 0 (((List.range k).map fun j => byteN a (31 - j)).map UInt8.ofNat) = a / 256 ^ (32 - k) % 256 ^ k
 | 0, _ => by simp [octVal, Nat.mod_one]
 | k + 1, hk => by
  rw [List.range_succ, List.map_append, List.map_append]
  have h : ∀ (l : List UInt8) (n : Nat) (c : UInt8), octVal n (l ++ [c]) = octVal n l * 256 + c.toNat := by
   intro l
   induction l with
   | nil => intro n c; rfl
   | cons x r ih => intro n c; exact ih _ c
  simp only [List.map_cons, List.map_nil]
  rw [h, byteL_take a k (by omega), UInt8.toNat_ofNat', Nat.mod_eq_of_lt (show byteN a (31 - k) < 2 ^ 8 from byteN_lt a _)]
  have e1 : 32 - k = (31 - k) + 1 := by omega
  have e2 : 32 - (k + 1) = 31 - k := by omega
  have hs := byte_step a (31 - k)
  rw [e1, e2]
  rw [← hs]
  clear hs h e1 e2
  generalize a / 256 ^ (31 - k + 1) = q
  have hb := byteN_lt a (31 - k)
  generalize byteN a (31 - k) = b at *
  rw [Nat.pow_succ, Nat.mul_comm (256 ^ k) 256, Nat.mod_mul]
  have e3 : (q * 256 + b) % 256 = b := by omega
  have e4 : (q * 256 + b) / 256 = q := by omega
  rw [e3, e4]
  exact (Nat.add_comm _ _).trans (congrArg (b + ·) (Nat.mul_comm _ _)) |>.symm ▸ rfl
theorem octVal_bytes (a : Nat) (ha : W256 a) : octVal 0 ((byteL a).map UInt8.ofNat) = a := by
 have h := byteL_take a 32 (Nat.le_refl _)
 have e : (256 : Nat) ^ 32 = 115792089237316195423570985008687907853269984665640564039457584007913129639936 := by decide
 rw [e, Nat.sub_self, Nat.pow_zero, Nat.div_one, Nat.mod_eq_of_lt ha] at h
 exact h
theorem fromB_bytes (a : Nat) (ha : W256 a) : fromB (bytesOf a).data.toList = a := by
 unfold fromB
 rw [bytesOf_list]
 simp only [List.length_map, byteL_length, Nat.sub_self, List.drop_zero]
 exact octVal_bytes a ha
end
end Go.Proofs.Ytpolmfmlklmmcaa
