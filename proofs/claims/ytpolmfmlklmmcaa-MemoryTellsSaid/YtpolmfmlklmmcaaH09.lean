/- Part. -/
import Derived.LoopN
import Derived.Test.YtpolmfmlklmmcaaH08
set_option maxRecDepth 100000
set_option maxHeartbeats 16000000
namespace Go.Proofs.Ytpolmfmlklmmcaa
open Go Go.RowKit
attribute [local go_sem] Oper.semAt_some Grows wide_fn eq4
theorem tells_all (za zb : Nat → Int) (put : ByteArray) (zo : Int → Nat → Int) (gR : ByteArray → Int → ByteArray) (gE : ByteArray → Int → Int) (lz : ByteArray → Int → Nat → Int) (lE : ByteArray → Int → Int) (sR : ByteArray → Int → ByteArray) (sE : ByteArray → Int → Int) (bR : ByteArray → Int → ByteArray) (bE : ByteArray → Int → Int) (cR : ByteArray → Int → ByteArray) (cE : ByteArray → Int → Int) (lR : ByteArray → Int → Int → ByteArray) (lF : ByteArray → Int → Int → Int) (pR : ByteArray → Int → Int → ByteArray) (pE : ByteArray → Int → Int → Int) (qR : ByteArray → Int → ByteArray) (qE : ByteArray → Int → Int) (s x y : ByteArray) (words ap n pn pa2 pn2 p4 k6 k1 n4 n3 k3 c1 c2 i1 i2 i3 : Int) (b1 b2 b3 : Bool) (hx : ¬ 800 < (s.size : Int) ∧ s = x) (B : Both za put zo gR gE lz lE sR sE bR bE cR cE lR lF pR pE qR qE) (e40 : min n 40 = n4) (e30 : min n 300 = n3) (e31 : min k1 300 = k3) (hx1 : x.size ≤ 2000) (hy1 : y.size ≤ 2000) (hap : I64 ap) (hn : I64 n) (hpa2 : I64 pa2) (hpn2 : I64 pn2) (hk6 : I64 k6) (k0 : Ret Try.prog 8 #[] (.bool true)) (q1 : Ret Try.prog 11 #[.int .i64 n, .int .i64 40000] (.int .i64 pn)) (q2 : Ret Try.prog 11 #[.int .i64 ap, .int .i64 1048576] (.int .i64 pa2)) (q3 : Ret Try.prog 11 #[.int .i64 n, .int .i64 1048576] (.int .i64 pn2)) (q4 : Ret Try.prog 11 #[.int .i64 n, .int .i64 40] (.int .i64 p4)) (q6 : Ret Try.prog 11 #[.int .i64 ap, .int .i64 600] (.int .i64 k6)) (q7 : Ret Try.prog 11 #[.int .i64 n, .int .i64 100] (.int .i64 k1)) (d1 : Ret Try.prog 9 #[.int .i64 n] (.int .i64 c1)) (d2 : Ret Try.prog 10 #[.int .i64 n] (.int .i64 c1)) (d3 : Ret Try.prog 9 #[.int .i64 pn] (.int .i64 c2)) (d4 : Ret Try.prog 10 #[.int .i64 pn] (.int .i64 c2)) (mm : Ret Try.prog 15 #[.string x, .int .i64 words] (.string y)) (n0 : Ret Try.prog 13 #[.agg #[.int .u64 (za 0), .int .u64 (za 1), .int .u64 (za 2), .int .u64 (za 3)], .agg #[.int .u64 (zb 0), .int .u64 (zb 1), .int .u64 (zb 2), .int .u64 (zb 3)]] (.tuple #[.int .i64 i1, .bool b1])) (r0 : Ret Try.prog 14 #[.agg #[.int .u64 (za 0), .int .u64 (za 1), .int .u64 (za 2), .int .u64 (za 3)], .agg #[.int .u64 (zb 0), .int .u64 (zb 1), .int .u64 (zb 2), .int .u64 (zb 3)]] (.tuple #[.int .i64 i1, .bool b1])) (n1 : Ret Try.prog 13 #[.agg #[.int .u64 (zo ap 0), .int .u64 (zo ap 1), .int .u64 (zo ap 2), .int .u64 (zo ap 3)], .agg #[.int .u64 (zo n 0), .int .u64 (zo n 1), .int .u64 (zo n 2), .int .u64 (zo n 3)]] (.tuple #[.int .i64 i2, .bool b2])) (r1 : Ret Try.prog 14 #[.agg #[.int .u64 (zo ap 0), .int .u64 (zo ap 1), .int .u64 (zo ap 2), .int .u64 (zo ap 3)], .agg #[.int .u64 (zo n 0), .int .u64 (zo n 1), .int .u64 (zo n 2), .int .u64 (zo n 3)]] (.tuple #[.int .i64 i2, .bool b2])) (n2 : Ret Try.prog 13 #[.agg #[.int .u64 (zo pa2 0), .int .u64 (zo pa2 1), .int .u64 (zo pa2 2), .int .u64 (zo pa2 3)], .agg #[.int .u64 (zo pn2 0), .int .u64 (zo pn2 1), .int .u64 (zo pn2 2), .int .u64 (zo pn2 3)]] (.tuple #[.int .i64 i3, .bool b3])) (r2 : Ret Try.prog 14 #[.agg #[.int .u64 (zo pa2 0), .int .u64 (zo pa2 1), .int .u64 (zo pa2 2), .int .u64 (zo pa2 3)], .agg #[.int .u64 (zo pn2 0), .int .u64 (zo pn2 1), .int .u64 (zo pn2 2), .int .u64 (zo pn2 3)]] (.tuple #[.int .i64 i3, .bool b3])) :
  Ret Try.prog 3 #[.string s, .int .i64 words, .int .i64 ap, .int .i64 n, .agg #[.int .u64 (za 0), .int .u64 (za 1), .int .u64 (za 2), .int .u64 (za 3)], .agg #[.int .u64 (zb 0), .int .u64 (zb 1), .int .u64 (zb 2), .int .u64 (zb 3)], .string put] (.bool true) := by
 intro w
 have HB := hid B
 have HO1 := hid (B.of ap hap)
 have HO2 := hid (B.of n hn)
 have HO3 := hid (B.of pa2 hpa2)
 have HO4 := hid (B.of pn2 hpn2)
 clear B
 obtain ⟨hx, hxe⟩ := hx
 have hxe := hxe.symm
 subst hxe
 have Hk0 := hid k0
 have Hq1 := hid q1
 have Hq2 := hid q2
 have Hq3 := hid q3
 have Hq4 := hid q4
 have Hq6 := hid q6
 have Hq7 := hid q7
 have Hd1 := hid d1
 have Hd2 := hid d2
 have Hd3 := hid d3
 have Hd4 := hid d4
 have Hmm := hid mm
 have Hn0 := hid n0
 have Hr0 := hid r0
 have Hn1 := hid n1
 have Hr1 := hid r1
 have Hn2 := hid n2
 have Hr2 := hid r2
 clear k0 q1 q2 q3 q4 q6 q7 d1 d2 d3 d4 mm n0 r0 n1 r1 n2 r2
 go_enter Try.func3, Try.ntmps3
 have LA := Has.new w 24 #[.int .u64 (za 0), .int .u64 (za 1), .int .u64 (za 2), .int .u64 (za 3)]
 have k1 := LA.cell 0 _ rfl
 have k2 := LA.cell 1 _ rfl
 have k3 := LA.cell 2 _ rfl
 have k4 := LA.cell 3 _ rfl
 replace LA := LA.alloc (.cells #[.int .u64 (zb 0), .int .u64 (zb 1), .int .u64 (zb 2), .int .u64 (zb 3)] 24)
 have LB := Has.new (w.alloc (.cells #[.int .u64 (za 0), .int .u64 (za 1), .int .u64 (za 2), .int .u64 (za 3)] 24)) 24 #[.int .u64 (zb 0), .int .u64 (zb 1), .int .u64 (zb 2), .int .u64 (zb 3)]
 simp only [World.size_alloc] at LB
 have k5 := LA.cell 0 _ rfl
 have k6 := LA.cell 1 _ rfl
 have k7 := LA.cell 2 _ rfl
 have k8 := LA.cell 3 _ rfl
 have k9 := LB.cell 0 _ rfl
 have k10 := LB.cell 1 _ rfl
 have k11 := LB.cell 2 _ rfl
 have k12 := LB.cell 3 _ rfl
 have Q := (Below.refl w.heap.size w)
 replace Q := Q.alloc Q.size (.cells #[.int .u64 (za 0), .int .u64 (za 1), .int .u64 (za 2), .int .u64 (za 3)] 24)
 replace Q := Q.alloc Q.size (.cells #[.int .u64 (zb 0), .int .u64 (zb 1), .int .u64 (zb 2), .int .u64 (zb 3)] 24)
 go_wp2_with fail
 clear k1 k2 k3 k4 k5 k6 k7 k8 k9 k10 k11 k12
 obtain ⟨W1, hW1⟩ : ∃ W1, ((w.alloc (.cells #[.int .u64 (za 0), .int .u64 (za 1), .int .u64 (za 2), .int .u64 (za 3)] 24)).alloc (.cells #[.int .u64 (zb 0), .int .u64 (zb 1), .int .u64 (zb 2), .int .u64 (zb 3)] 24)) = W1 := ⟨_, rfl⟩
 rw [hW1] at LA LB Q ⊢
 clear hW1
 refine (Hk0.out _).mono ?_
 rintro e v13 ⟨rfl, q⟩
 replace LA := LA.later q
 replace LB := LB.later q
 replace Q := Q.trans (q.mono Q.size)
 clear q
 have k14 := LA.cell 0 _ rfl
 have k15 := LA.cell 1 _ rfl
 have k16 := LA.cell 2 _ rfl
 have k17 := LA.cell 3 _ rfl
 have k18 := LB.cell 0 _ rfl
 have k19 := LB.cell 1 _ rfl
 have k20 := LB.cell 2 _ rfl
 have k21 := LB.cell 3 _ rfl
 go_wp2_with fail
 clear k14 k15 k16 k17 k18 k19 k20 k21
 refine (Hd1.out _).mono ?_
 rintro e v22 ⟨rfl, q⟩
 replace LA := LA.later q
 replace LB := LB.later q
 replace Q := Q.trans (q.mono Q.size)
 clear q
 have k23 := LA.cell 0 _ rfl
 have k24 := LA.cell 1 _ rfl
 have k25 := LA.cell 2 _ rfl
 have k26 := LA.cell 3 _ rfl
 have k27 := LB.cell 0 _ rfl
 have k28 := LB.cell 1 _ rfl
 have k29 := LB.cell 2 _ rfl
 have k30 := LB.cell 3 _ rfl
 go_wp2_with fail
 clear k23 k24 k25 k26 k27 k28 k29 k30
 refine (Hd2.out _).mono ?_
 rintro e v31 ⟨rfl, q⟩
 replace LA := LA.later q
 replace LB := LB.later q
 replace Q := Q.trans (q.mono Q.size)
 clear q
 have k32 := LA.cell 0 _ rfl
 have k33 := LA.cell 1 _ rfl
 have k34 := LA.cell 2 _ rfl
 have k35 := LA.cell 3 _ rfl
 have k36 := LB.cell 0 _ rfl
 have k37 := LB.cell 1 _ rfl
 have k38 := LB.cell 2 _ rfl
 have k39 := LB.cell 3 _ rfl
 go_wp2_with fail
 clear k32 k33 k34 k35 k36 k37 k38 k39
 refine (Hq1.out _).mono ?_
 rintro e v40 ⟨rfl, q⟩
 replace LA := LA.later q
 replace LB := LB.later q
 replace Q := Q.trans (q.mono Q.size)
 clear q
 have k41 := LA.cell 0 _ rfl
 have k42 := LA.cell 1 _ rfl
 have k43 := LA.cell 2 _ rfl
 have k44 := LA.cell 3 _ rfl
 have k45 := LB.cell 0 _ rfl
 have k46 := LB.cell 1 _ rfl
 have k47 := LB.cell 2 _ rfl
 have k48 := LB.cell 3 _ rfl
 go_wp2_with fail
 clear k41 k42 k43 k44 k45 k46 k47 k48
 refine (Hd3.out _).mono ?_
 rintro e v49 ⟨rfl, q⟩
 replace LA := LA.later q
 replace LB := LB.later q
 replace Q := Q.trans (q.mono Q.size)
 clear q
 have k50 := LA.cell 0 _ rfl
 have k51 := LA.cell 1 _ rfl
 have k52 := LA.cell 2 _ rfl
 have k53 := LA.cell 3 _ rfl
 have k54 := LB.cell 0 _ rfl
 have k55 := LB.cell 1 _ rfl
 have k56 := LB.cell 2 _ rfl
 have k57 := LB.cell 3 _ rfl
 go_wp2_with fail
 clear k50 k51 k52 k53 k54 k55 k56 k57
 refine (Hq1.out _).mono ?_
 rintro e v58 ⟨rfl, q⟩
 replace LA := LA.later q
 replace LB := LB.later q
 replace Q := Q.trans (q.mono Q.size)
 clear q
 have k59 := LA.cell 0 _ rfl
 have k60 := LA.cell 1 _ rfl
 have k61 := LA.cell 2 _ rfl
 have k62 := LA.cell 3 _ rfl
 have k63 := LB.cell 0 _ rfl
 have k64 := LB.cell 1 _ rfl
 have k65 := LB.cell 2 _ rfl
 have k66 := LB.cell 3 _ rfl
 go_wp2_with fail
 clear k59 k60 k61 k62 k63 k64 k65 k66
 refine (Hd4.out _).mono ?_
 rintro e v67 ⟨rfl, q⟩
 replace LA := LA.later q
 replace LB := LB.later q
 replace Q := Q.trans (q.mono Q.size)
 clear q
 have k68 := LA.cell 0 _ rfl
 have k69 := LA.cell 1 _ rfl
 have k70 := LA.cell 2 _ rfl
 have k71 := LA.cell 3 _ rfl
 have k72 := LB.cell 0 _ rfl
 have k73 := LB.cell 1 _ rfl
 have k74 := LB.cell 2 _ rfl
 have k75 := LB.cell 3 _ rfl
 go_wp2_with fail
 clear k68 k69 k70 k71 k72 k73 k74 k75
 have k76 : ∀ x : Ext v67, x.w.cell? ⟨w.heap.size, 0, none⟩ = some (.int .u64 (za 0)) := fun x => (LA.later x.below).cell 0 _ rfl
 have k77 : ∀ x : Ext v67, x.w.cell? ⟨w.heap.size, 1, none⟩ = some (.int .u64 (za 1)) := fun x => (LA.later x.below).cell 1 _ rfl
 have k78 : ∀ x : Ext v67, x.w.cell? ⟨w.heap.size, 2, none⟩ = some (.int .u64 (za 2)) := fun x => (LA.later x.below).cell 2 _ rfl
 have k79 : ∀ x : Ext v67, x.w.cell? ⟨w.heap.size, 3, none⟩ = some (.int .u64 (za 3)) := fun x => (LA.later x.below).cell 3 _ rfl
 have k80 : ∀ x : Ext v67, x.w.cell? ⟨w.heap.size + 1, 0, none⟩ = some (.int .u64 (zb 0)) := fun x => (LB.later x.below).cell 0 _ rfl
 have k81 : ∀ x : Ext v67, x.w.cell? ⟨w.heap.size + 1, 1, none⟩ = some (.int .u64 (zb 1)) := fun x => (LB.later x.below).cell 1 _ rfl
 have k82 : ∀ x : Ext v67, x.w.cell? ⟨w.heap.size + 1, 2, none⟩ = some (.int .u64 (zb 2)) := fun x => (LB.later x.below).cell 2 _ rfl
 have k83 : ∀ x : Ext v67, x.w.cell? ⟨w.heap.size + 1, 3, none⟩ = some (.int .u64 (zb 3)) := fun x => (LB.later x.below).cell 3 _ rfl
 refine wp_region_mix (C := Grows v67) [some true, some true, some true, some true, some true, some true, some true, some true, some true, some true, some true, some true, some true, some true, some true, none, none, some false] (by kernel_rfl) (by kernel_rfl) (by kernel_rfl) (grows_refl v67) ?_
 simp only [headOf, tailOf]
 repeat (go_big_quiet_step (first | (with_reducible exact Ret.at HO1.out _) | (with_reducible exact Ret.at HO2.out _) | (with_reducible exact Ret.at HO3.out _) | (with_reducible exact Ret.at HO4.out _) | (with_reducible exact Ret.at Hq2.out _) | (with_reducible exact Ret.at Hq3.out _)))
 refine wpQuiet_nil ?_
 rintro _ ⟨xx, rfl⟩
 clear k76 k77 k78 k79 k80 k81 k82 k83 HO1 HO2 HO3 HO4 Hq2 Hq3
 have LA := (LA.later xx.below).alloc (.cells #[.int .u64 (za 0), .int .u64 (za 1), .int .u64 (za 2), .int .u64 (za 3), .int .u64 (zb 0), .int .u64 (zb 1), .int .u64 (zb 2), .int .u64 (zb 3), .int .u64 (zo ap 0), .int .u64 (zo ap 1), .int .u64 (zo ap 2), .int .u64 (zo ap 3), .int .u64 (zo n 0), .int .u64 (zo n 1), .int .u64 (zo n 2), .int .u64 (zo n 3), .int .u64 (zo pa2 0), .int .u64 (zo pa2 1), .int .u64 (zo pa2 2), .int .u64 (zo pa2 3), .int .u64 (zo pn2 0), .int .u64 (zo pn2 1), .int .u64 (zo pn2 2), .int .u64 (zo pn2 3)] 28)
 have LS := Has.new xx.w 28 #[.int .u64 (za 0), .int .u64 (za 1), .int .u64 (za 2), .int .u64 (za 3), .int .u64 (zb 0), .int .u64 (zb 1), .int .u64 (zb 2), .int .u64 (zb 3), .int .u64 (zo ap 0), .int .u64 (zo ap 1), .int .u64 (zo ap 2), .int .u64 (zo ap 3), .int .u64 (zo n 0), .int .u64 (zo n 1), .int .u64 (zo n 2), .int .u64 (zo n 3), .int .u64 (zo pa2 0), .int .u64 (zo pa2 1), .int .u64 (zo pa2 2), .int .u64 (zo pa2 3), .int .u64 (zo pn2 0), .int .u64 (zo pn2 1), .int .u64 (zo pn2 2), .int .u64 (zo pn2 3)]
 replace Q := Q.trans (xx.below.mono Q.size)
 replace Q := Q.alloc Q.size (.cells #[.int .u64 (za 0), .int .u64 (za 1), .int .u64 (za 2), .int .u64 (za 3), .int .u64 (zb 0), .int .u64 (zb 1), .int .u64 (zb 2), .int .u64 (zb 3), .int .u64 (zo ap 0), .int .u64 (zo ap 1), .int .u64 (zo ap 2), .int .u64 (zo ap 3), .int .u64 (zo n 0), .int .u64 (zo n 1), .int .u64 (zo n 2), .int .u64 (zo n 3), .int .u64 (zo pa2 0), .int .u64 (zo pa2 1), .int .u64 (zo pa2 2), .int .u64 (zo pa2 3), .int .u64 (zo pn2 0), .int .u64 (zo pn2 1), .int .u64 (zo pn2 2), .int .u64 (zo pn2 3)] 28)
 clear LB
 go_wp2
 rw [calmPost_normal]
 go_wp2
 obtain ⟨W5, hW5⟩ : ∃ W5, xx.w.alloc (.cells #[.int .u64 (za 0), .int .u64 (za 1), .int .u64 (za 2), .int .u64 (za 3), .int .u64 (zb 0), .int .u64 (zb 1), .int .u64 (zb 2), .int .u64 (zb 3), .int .u64 (zo ap 0), .int .u64 (zo ap 1), .int .u64 (zo ap 2), .int .u64 (zo ap 3), .int .u64 (zo n 0), .int .u64 (zo n 1), .int .u64 (zo n 2), .int .u64 (zo n 3), .int .u64 (zo pa2 0), .int .u64 (zo pa2 1), .int .u64 (zo pa2 2), .int .u64 (zo pa2 3), .int .u64 (zo pn2 0), .int .u64 (zo pn2 1), .int .u64 (zo pn2 2), .int .u64 (zo pn2 3)] 28) = W5 := ⟨_, rfl⟩
 rw [hW5] at LA LS Q ⊢
 clear hW5
 generalize xx.w.heap.size = g1 at *
 refine wp_loop_rounds 4 ?_
 rw [rounds_succ]
 have k84 := LS.cell 0 _ rfl
 have k85 := LS.cell 1 _ rfl
 have k86 := LS.cell 2 _ rfl
 have k87 := LS.cell 3 _ rfl
 have k88 := LS.cell 4 _ rfl
 have k89 := LS.cell 5 _ rfl
 have k90 := LS.cell 6 _ rfl
 have k91 := LS.cell 7 _ rfl
 have k92 := LS.cell 8 _ rfl
 have k93 := LS.cell 9 _ rfl
 have k94 := LS.cell 10 _ rfl
 have k95 := LS.cell 11 _ rfl
 have k96 := LS.cell 12 _ rfl
 have k97 := LS.cell 13 _ rfl
 have k98 := LS.cell 14 _ rfl
 have k99 := LS.cell 15 _ rfl
 have k100 := LS.cell 16 _ rfl
 have k101 := LS.cell 17 _ rfl
 have k102 := LS.cell 18 _ rfl
 have k103 := LS.cell 19 _ rfl
 have k104 := LS.cell 20 _ rfl
 have k105 := LS.cell 21 _ rfl
 have k106 := LS.cell 22 _ rfl
 have k107 := LS.cell 23 _ rfl
 replace LA := LA.alloc (.cells #[.int .u64 (za 0), .int .u64 (za 1), .int .u64 (za 2), .int .u64 (za 3), .int .u64 (zb 0), .int .u64 (zb 1), .int .u64 (zb 2), .int .u64 (zb 3)] 28)
 replace LS := LS.alloc (.cells #[.int .u64 (za 0), .int .u64 (za 1), .int .u64 (za 2), .int .u64 (za 3), .int .u64 (zb 0), .int .u64 (zb 1), .int .u64 (zb 2), .int .u64 (zb 3)] 28)
 have LX := Has.new W5 28 #[.int .u64 (za 0), .int .u64 (za 1), .int .u64 (za 2), .int .u64 (za 3), .int .u64 (zb 0), .int .u64 (zb 1), .int .u64 (zb 2), .int .u64 (zb 3)]
 have k108 := LS.cell 0 _ rfl
 have k109 := LS.cell 1 _ rfl
 have k110 := LS.cell 2 _ rfl
 have k111 := LS.cell 3 _ rfl
 have k112 := LS.cell 4 _ rfl
 have k113 := LS.cell 5 _ rfl
 have k114 := LS.cell 6 _ rfl
 have k115 := LS.cell 7 _ rfl
 have k116 := LS.cell 8 _ rfl
 have k117 := LS.cell 9 _ rfl
 have k118 := LS.cell 10 _ rfl
 have k119 := LS.cell 11 _ rfl
 have k120 := LS.cell 12 _ rfl
 have k121 := LS.cell 13 _ rfl
 have k122 := LS.cell 14 _ rfl
 have k123 := LS.cell 15 _ rfl
 have k124 := LS.cell 16 _ rfl
 have k125 := LS.cell 17 _ rfl
 have k126 := LS.cell 18 _ rfl
 have k127 := LS.cell 19 _ rfl
 have k128 := LS.cell 20 _ rfl
 have k129 := LS.cell 21 _ rfl
 have k130 := LS.cell 22 _ rfl
 have k131 := LS.cell 23 _ rfl
 have k132 := LX.cell 0 _ rfl
 have k133 := LX.cell 1 _ rfl
 have k134 := LX.cell 2 _ rfl
 have k135 := LX.cell 3 _ rfl
 have k136 := LX.cell 4 _ rfl
 have k137 := LX.cell 5 _ rfl
 have k138 := LX.cell 6 _ rfl
 have k139 := LX.cell 7 _ rfl
 replace Q := Q.alloc Q.size (.cells #[.int .u64 (za 0), .int .u64 (za 1), .int .u64 (za 2), .int .u64 (za 3), .int .u64 (zb 0), .int .u64 (zb 1), .int .u64 (zb 2), .int .u64 (zb 3)] 28)
 go_wp2_with fail
 clear k84 k85 k86 k87 k88 k89 k90 k91 k92 k93 k94 k95 k96 k97 k98 k99 k100 k101 k102 k103 k104 k105 k106 k107 k108 k109 k110 k111 k112 k113 k114 k115 k116 k117 k118 k119 k120 k121 k122 k123 k124 k125 k126 k127 k128 k129 k130 k131 k132 k133 k134 k135 k136 k137 k138 k139
 obtain ⟨W2, hW2⟩ : ∃ W2, (W5.alloc (.cells #[.int .u64 (za 0), .int .u64 (za 1), .int .u64 (za 2), .int .u64 (za 3), .int .u64 (zb 0), .int .u64 (zb 1), .int .u64 (zb 2), .int .u64 (zb 3)] 28)) = W2 := ⟨_, rfl⟩
 rw [hW2] at LA LS LX Q ⊢
 clear hW2
 generalize W5.heap.size = b2 at *
 refine (Hn0.out _).mono ?_
 rintro e v140 ⟨rfl, q⟩
 replace LA := LA.later q
 replace LS := LS.later q
 replace LX := LX.later q
 replace Q := Q.trans (q.mono Q.size)
 clear q
 have k141 := LX.cell 0 _ rfl
 have k142 := LX.cell 1 _ rfl
 have k143 := LX.cell 2 _ rfl
 have k144 := LX.cell 3 _ rfl
 have k145 := LX.cell 4 _ rfl
 have k146 := LX.cell 5 _ rfl
 have k147 := LX.cell 6 _ rfl
 have k148 := LX.cell 7 _ rfl
 go_wp2_with fail
 clear k141 k142 k143 k144 k145 k146 k147 k148
 refine (Hr0.out _).mono ?_
 rintro e v149 ⟨rfl, q⟩
 replace LA := LA.later q
 replace LS := LS.later q
 replace LX := LX.later q
 replace Q := Q.trans (q.mono Q.size)
 clear q
 clear LX
 go_wp2
 rw [rounds_succ]
 have k150 := LS.cell 0 _ rfl
 have k151 := LS.cell 1 _ rfl
 have k152 := LS.cell 2 _ rfl
 have k153 := LS.cell 3 _ rfl
 have k154 := LS.cell 4 _ rfl
 have k155 := LS.cell 5 _ rfl
 have k156 := LS.cell 6 _ rfl
 have k157 := LS.cell 7 _ rfl
 have k158 := LS.cell 8 _ rfl
 have k159 := LS.cell 9 _ rfl
 have k160 := LS.cell 10 _ rfl
 have k161 := LS.cell 11 _ rfl
 have k162 := LS.cell 12 _ rfl
 have k163 := LS.cell 13 _ rfl
 have k164 := LS.cell 14 _ rfl
 have k165 := LS.cell 15 _ rfl
 have k166 := LS.cell 16 _ rfl
 have k167 := LS.cell 17 _ rfl
 have k168 := LS.cell 18 _ rfl
 have k169 := LS.cell 19 _ rfl
 have k170 := LS.cell 20 _ rfl
 have k171 := LS.cell 21 _ rfl
 have k172 := LS.cell 22 _ rfl
 have k173 := LS.cell 23 _ rfl
 replace LA := LA.alloc (.cells #[.int .u64 (zo ap 0), .int .u64 (zo ap 1), .int .u64 (zo ap 2), .int .u64 (zo ap 3), .int .u64 (zo n 0), .int .u64 (zo n 1), .int .u64 (zo n 2), .int .u64 (zo n 3)] 28)
 replace LS := LS.alloc (.cells #[.int .u64 (zo ap 0), .int .u64 (zo ap 1), .int .u64 (zo ap 2), .int .u64 (zo ap 3), .int .u64 (zo n 0), .int .u64 (zo n 1), .int .u64 (zo n 2), .int .u64 (zo n 3)] 28)
 have LX := Has.new v149 28 #[.int .u64 (zo ap 0), .int .u64 (zo ap 1), .int .u64 (zo ap 2), .int .u64 (zo ap 3), .int .u64 (zo n 0), .int .u64 (zo n 1), .int .u64 (zo n 2), .int .u64 (zo n 3)]
 have k174 := LS.cell 0 _ rfl
 have k175 := LS.cell 1 _ rfl
 have k176 := LS.cell 2 _ rfl
 have k177 := LS.cell 3 _ rfl
 have k178 := LS.cell 4 _ rfl
 have k179 := LS.cell 5 _ rfl
 have k180 := LS.cell 6 _ rfl
 have k181 := LS.cell 7 _ rfl
 have k182 := LS.cell 8 _ rfl
 have k183 := LS.cell 9 _ rfl
 have k184 := LS.cell 10 _ rfl
 have k185 := LS.cell 11 _ rfl
 have k186 := LS.cell 12 _ rfl
 have k187 := LS.cell 13 _ rfl
 have k188 := LS.cell 14 _ rfl
 have k189 := LS.cell 15 _ rfl
 have k190 := LS.cell 16 _ rfl
 have k191 := LS.cell 17 _ rfl
 have k192 := LS.cell 18 _ rfl
 have k193 := LS.cell 19 _ rfl
 have k194 := LS.cell 20 _ rfl
 have k195 := LS.cell 21 _ rfl
 have k196 := LS.cell 22 _ rfl
 have k197 := LS.cell 23 _ rfl
 have k198 := LX.cell 0 _ rfl
 have k199 := LX.cell 1 _ rfl
 have k200 := LX.cell 2 _ rfl
 have k201 := LX.cell 3 _ rfl
 have k202 := LX.cell 4 _ rfl
 have k203 := LX.cell 5 _ rfl
 have k204 := LX.cell 6 _ rfl
 have k205 := LX.cell 7 _ rfl
 replace Q := Q.alloc Q.size (.cells #[.int .u64 (zo ap 0), .int .u64 (zo ap 1), .int .u64 (zo ap 2), .int .u64 (zo ap 3), .int .u64 (zo n 0), .int .u64 (zo n 1), .int .u64 (zo n 2), .int .u64 (zo n 3)] 28)
 go_wp2_with fail
 clear k150 k151 k152 k153 k154 k155 k156 k157 k158 k159 k160 k161 k162 k163 k164 k165 k166 k167 k168 k169 k170 k171 k172 k173 k174 k175 k176 k177 k178 k179 k180 k181 k182 k183 k184 k185 k186 k187 k188 k189 k190 k191 k192 k193 k194 k195 k196 k197 k198 k199 k200 k201 k202 k203 k204 k205
 obtain ⟨W3, hW3⟩ : ∃ W3, (v149.alloc (.cells #[.int .u64 (zo ap 0), .int .u64 (zo ap 1), .int .u64 (zo ap 2), .int .u64 (zo ap 3), .int .u64 (zo n 0), .int .u64 (zo n 1), .int .u64 (zo n 2), .int .u64 (zo n 3)] 28)) = W3 := ⟨_, rfl⟩
 rw [hW3] at LA LS LX Q ⊢
 clear hW3
 generalize v149.heap.size = b3 at *
 refine (Hn1.out _).mono ?_
 rintro e v206 ⟨rfl, q⟩
 replace LA := LA.later q
 replace LS := LS.later q
 replace LX := LX.later q
 replace Q := Q.trans (q.mono Q.size)
 clear q
 have k207 := LX.cell 0 _ rfl
 have k208 := LX.cell 1 _ rfl
 have k209 := LX.cell 2 _ rfl
 have k210 := LX.cell 3 _ rfl
 have k211 := LX.cell 4 _ rfl
 have k212 := LX.cell 5 _ rfl
 have k213 := LX.cell 6 _ rfl
 have k214 := LX.cell 7 _ rfl
 go_wp2_with fail
 clear k207 k208 k209 k210 k211 k212 k213 k214
 refine (Hr1.out _).mono ?_
 rintro e v215 ⟨rfl, q⟩
 replace LA := LA.later q
 replace LS := LS.later q
 replace LX := LX.later q
 replace Q := Q.trans (q.mono Q.size)
 clear q
 clear LX
 go_wp2
 rw [rounds_succ]
 have k216 := LS.cell 0 _ rfl
 have k217 := LS.cell 1 _ rfl
 have k218 := LS.cell 2 _ rfl
 have k219 := LS.cell 3 _ rfl
 have k220 := LS.cell 4 _ rfl
 have k221 := LS.cell 5 _ rfl
 have k222 := LS.cell 6 _ rfl
 have k223 := LS.cell 7 _ rfl
 have k224 := LS.cell 8 _ rfl
 have k225 := LS.cell 9 _ rfl
 have k226 := LS.cell 10 _ rfl
 have k227 := LS.cell 11 _ rfl
 have k228 := LS.cell 12 _ rfl
 have k229 := LS.cell 13 _ rfl
 have k230 := LS.cell 14 _ rfl
 have k231 := LS.cell 15 _ rfl
 have k232 := LS.cell 16 _ rfl
 have k233 := LS.cell 17 _ rfl
 have k234 := LS.cell 18 _ rfl
 have k235 := LS.cell 19 _ rfl
 have k236 := LS.cell 20 _ rfl
 have k237 := LS.cell 21 _ rfl
 have k238 := LS.cell 22 _ rfl
 have k239 := LS.cell 23 _ rfl
 replace LA := LA.alloc (.cells #[.int .u64 (zo pa2 0), .int .u64 (zo pa2 1), .int .u64 (zo pa2 2), .int .u64 (zo pa2 3), .int .u64 (zo pn2 0), .int .u64 (zo pn2 1), .int .u64 (zo pn2 2), .int .u64 (zo pn2 3)] 28)
 replace LS := LS.alloc (.cells #[.int .u64 (zo pa2 0), .int .u64 (zo pa2 1), .int .u64 (zo pa2 2), .int .u64 (zo pa2 3), .int .u64 (zo pn2 0), .int .u64 (zo pn2 1), .int .u64 (zo pn2 2), .int .u64 (zo pn2 3)] 28)
 have LX := Has.new v215 28 #[.int .u64 (zo pa2 0), .int .u64 (zo pa2 1), .int .u64 (zo pa2 2), .int .u64 (zo pa2 3), .int .u64 (zo pn2 0), .int .u64 (zo pn2 1), .int .u64 (zo pn2 2), .int .u64 (zo pn2 3)]
 have k240 := LS.cell 0 _ rfl
 have k241 := LS.cell 1 _ rfl
 have k242 := LS.cell 2 _ rfl
 have k243 := LS.cell 3 _ rfl
 have k244 := LS.cell 4 _ rfl
 have k245 := LS.cell 5 _ rfl
 have k246 := LS.cell 6 _ rfl
 have k247 := LS.cell 7 _ rfl
 have k248 := LS.cell 8 _ rfl
 have k249 := LS.cell 9 _ rfl
 have k250 := LS.cell 10 _ rfl
 have k251 := LS.cell 11 _ rfl
 have k252 := LS.cell 12 _ rfl
 have k253 := LS.cell 13 _ rfl
 have k254 := LS.cell 14 _ rfl
 have k255 := LS.cell 15 _ rfl
 have k256 := LS.cell 16 _ rfl
 have k257 := LS.cell 17 _ rfl
 have k258 := LS.cell 18 _ rfl
 have k259 := LS.cell 19 _ rfl
 have k260 := LS.cell 20 _ rfl
 have k261 := LS.cell 21 _ rfl
 have k262 := LS.cell 22 _ rfl
 have k263 := LS.cell 23 _ rfl
 have k264 := LX.cell 0 _ rfl
 have k265 := LX.cell 1 _ rfl
 have k266 := LX.cell 2 _ rfl
 have k267 := LX.cell 3 _ rfl
 have k268 := LX.cell 4 _ rfl
 have k269 := LX.cell 5 _ rfl
 have k270 := LX.cell 6 _ rfl
 have k271 := LX.cell 7 _ rfl
 replace Q := Q.alloc Q.size (.cells #[.int .u64 (zo pa2 0), .int .u64 (zo pa2 1), .int .u64 (zo pa2 2), .int .u64 (zo pa2 3), .int .u64 (zo pn2 0), .int .u64 (zo pn2 1), .int .u64 (zo pn2 2), .int .u64 (zo pn2 3)] 28)
 go_wp2_with fail
 clear k216 k217 k218 k219 k220 k221 k222 k223 k224 k225 k226 k227 k228 k229 k230 k231 k232 k233 k234 k235 k236 k237 k238 k239 k240 k241 k242 k243 k244 k245 k246 k247 k248 k249 k250 k251 k252 k253 k254 k255 k256 k257 k258 k259 k260 k261 k262 k263 k264 k265 k266 k267 k268 k269 k270 k271
 obtain ⟨W4, hW4⟩ : ∃ W4, (v215.alloc (.cells #[.int .u64 (zo pa2 0), .int .u64 (zo pa2 1), .int .u64 (zo pa2 2), .int .u64 (zo pa2 3), .int .u64 (zo pn2 0), .int .u64 (zo pn2 1), .int .u64 (zo pn2 2), .int .u64 (zo pn2 3)] 28)) = W4 := ⟨_, rfl⟩
 rw [hW4] at LA LS LX Q ⊢
 clear hW4
 generalize v215.heap.size = b4 at *
 refine (Hn2.out _).mono ?_
 rintro e v272 ⟨rfl, q⟩
 replace LA := LA.later q
 replace LS := LS.later q
 replace LX := LX.later q
 replace Q := Q.trans (q.mono Q.size)
 clear q
 have k273 := LX.cell 0 _ rfl
 have k274 := LX.cell 1 _ rfl
 have k275 := LX.cell 2 _ rfl
 have k276 := LX.cell 3 _ rfl
 have k277 := LX.cell 4 _ rfl
 have k278 := LX.cell 5 _ rfl
 have k279 := LX.cell 6 _ rfl
 have k280 := LX.cell 7 _ rfl
 go_wp2_with fail
 clear k273 k274 k275 k276 k277 k278 k279 k280
 refine (Hr2.out _).mono ?_
 rintro e v281 ⟨rfl, q⟩
 replace LA := LA.later q
 replace LS := LS.later q
 replace LX := LX.later q
 replace Q := Q.trans (q.mono Q.size)
 clear q
 clear LX
 go_wp2
 rw [rounds_succ]
 clear LS
 clear Hn0 Hr0 Hn1 Hr1 Hn2 Hr2
 go_wp2_with fail
 refine (Hmm.out _).mono ?_
 rintro e v282 ⟨rfl, q⟩
 replace LA := LA.later q
 replace Q := Q.trans (q.mono Q.size)
 clear q
 replace LA := LA.alloc (.cells #[.string x, .string y] 9)
 have LS := Has.new v282 9 #[.string x, .string y]
 replace Q := Q.alloc Q.size (.cells #[.string x, .string y] 9)
 go_wp2
 obtain ⟨V5, hV5⟩ : ∃ V5, v282.alloc (.cells #[.string x, .string y] 9) = V5 := ⟨_, rfl⟩
 rw [hV5] at LA LS Q ⊢
 clear hV5
 generalize v282.heap.size = g2 at *
 refine wp_loop_rounds 3 ?_
 rw [rounds_succ]
 have k283 := LS.cell 0 _ rfl
 have k284 := LS.cell 1 _ rfl
 go_wp2_with fail
 clear k283 k284
 refine (Hq4.out _).mono ?_
 rintro e v285 ⟨rfl, q⟩
 replace LA := LA.later q
 replace LS := LS.later q
 replace Q := Q.trans (q.mono Q.size)
 clear q
 go_wp2_with fail
 refine ((HB.out.grow x hx1 p4).1 _).mono ?_
 rintro e v286 ⟨rfl, q⟩
 replace LA := LA.later q
 replace LS := LS.later q
 replace Q := Q.trans (q.mono Q.size)
 clear q
 go_wp2_with fail
 refine (Hq4.out _).mono ?_
 rintro e v287 ⟨rfl, q⟩
 replace LA := LA.later q
 replace LS := LS.later q
 replace Q := Q.trans (q.mono Q.size)
 clear q
 go_wp2_with fail
 refine ((HB.out.grow x hx1 p4).2 _).mono ?_
 rintro e v288 ⟨rfl, q⟩
 replace LA := LA.later q
 replace LS := LS.later q
 replace Q := Q.trans (q.mono Q.size)
 clear q
 go_wp2_with fail
 refine ((HB.out.grow x hx1 n4).1 _).mono ?_
 rintro e v289 ⟨rfl, q⟩
 replace LA := LA.later q
 replace LS := LS.later q
 replace Q := Q.trans (q.mono Q.size)
 clear q
 go_wp2_with fail
 refine ((HB.out.grow x hx1 n4).2 _).mono ?_
 rintro e v290 ⟨rfl, q⟩
 replace LA := LA.later q
 replace LS := LS.later q
 replace Q := Q.trans (q.mono Q.size)
 clear q
 go_wp2_with fail
 refine (Hq6.out _).mono ?_
 rintro e v291 ⟨rfl, q⟩
 replace LA := LA.later q
 replace LS := LS.later q
 replace Q := Q.trans (q.mono Q.size)
 clear q
 replace LA := LA.alloc (.cells #[.int .i64 ap, .int .i64 k6] 3)
 replace LS := LS.alloc (.cells #[.int .i64 ap, .int .i64 k6] 3)
 have LK := Has.new v291 3 #[.int .i64 ap, .int .i64 k6]
 replace Q := Q.alloc Q.size (.cells #[.int .i64 ap, .int .i64 k6] 3)
 go_wp2
 obtain ⟨V6, hV6⟩ : ∃ V6, v291.alloc (.cells #[.int .i64 ap, .int .i64 k6] 3) = V6 := ⟨_, rfl⟩
 rw [hV6] at LA LS LK Q ⊢
 clear hV6
 generalize v291.heap.size = g3x at *
 refine wp_loop_rounds 3 ?_
 rw [rounds_succ]
 have k292 := LK.cell 0 _ rfl
 have k293 := LK.cell 1 _ rfl
 go_wp2_with fail
 clear k292 k293
 refine ((HB.out.load x hx1 ap hap).1 _).mono ?_
 rintro e v294 ⟨rfl, q⟩
 replace LA := LA.later q
 replace LS := LS.later q
 replace LK := LK.later q
 replace Q := Q.trans (q.mono Q.size)
 clear q
 replace LA := LA.alloc (.cells #[.int .u64 (lz x ap 0), .int .u64 (lz x ap 1), .int .u64 (lz x ap 2), .int .u64 (lz x ap 3)] 24)
 replace LS := LS.alloc (.cells #[.int .u64 (lz x ap 0), .int .u64 (lz x ap 1), .int .u64 (lz x ap 2), .int .u64 (lz x ap 3)] 24)
 replace LK := LK.alloc (.cells #[.int .u64 (lz x ap 0), .int .u64 (lz x ap 1), .int .u64 (lz x ap 2), .int .u64 (lz x ap 3)] 24)
 have LX := Has.new v294 24 #[.int .u64 (lz x ap 0), .int .u64 (lz x ap 1), .int .u64 (lz x ap 2), .int .u64 (lz x ap 3)]
 have k295 := LX.cell 0 _ rfl
 have k296 := LX.cell 1 _ rfl
 have k297 := LX.cell 2 _ rfl
 have k298 := LX.cell 3 _ rfl
 replace Q := Q.alloc Q.size (.cells #[.int .u64 (lz x ap 0), .int .u64 (lz x ap 1), .int .u64 (lz x ap 2), .int .u64 (lz x ap 3)] 24)
 go_wp2_with fail
 clear k295 k296 k297 k298
 obtain ⟨W7, hW7⟩ : ∃ W7, (v294.alloc (.cells #[.int .u64 (lz x ap 0), .int .u64 (lz x ap 1), .int .u64 (lz x ap 2), .int .u64 (lz x ap 3)] 24)) = W7 := ⟨_, rfl⟩
 rw [hW7] at LA LS LK LX Q ⊢
 clear hW7
 generalize v294.heap.size = b7 at *
 refine ((HB.out.load x hx1 ap hap).2 _).mono ?_
 rintro e v299 ⟨rfl, q⟩
 replace LA := LA.later q
 replace LS := LS.later q
 replace LK := LK.later q
 replace LX := LX.later q
 replace Q := Q.trans (q.mono Q.size)
 clear q
 have k300 := LA.cell 0 _ rfl
 have k301 := LA.cell 1 _ rfl
 have k302 := LA.cell 2 _ rfl
 have k303 := LA.cell 3 _ rfl
 replace LA := LA.alloc (.cells #[.int .u64 (lz x ap 0), .int .u64 (lz x ap 1), .int .u64 (lz x ap 2), .int .u64 (lz x ap 3)] 24)
 replace LS := LS.alloc (.cells #[.int .u64 (lz x ap 0), .int .u64 (lz x ap 1), .int .u64 (lz x ap 2), .int .u64 (lz x ap 3)] 24)
 replace LK := LK.alloc (.cells #[.int .u64 (lz x ap 0), .int .u64 (lz x ap 1), .int .u64 (lz x ap 2), .int .u64 (lz x ap 3)] 24)
 replace LX := LX.alloc (.cells #[.int .u64 (lz x ap 0), .int .u64 (lz x ap 1), .int .u64 (lz x ap 2), .int .u64 (lz x ap 3)] 24)
 have LY := Has.new v299 24 #[.int .u64 (lz x ap 0), .int .u64 (lz x ap 1), .int .u64 (lz x ap 2), .int .u64 (lz x ap 3)]
 have k304 := LA.cell 0 _ rfl
 have k305 := LA.cell 1 _ rfl
 have k306 := LA.cell 2 _ rfl
 have k307 := LA.cell 3 _ rfl
 have k308 := LY.cell 0 _ rfl
 have k309 := LY.cell 1 _ rfl
 have k310 := LY.cell 2 _ rfl
 have k311 := LY.cell 3 _ rfl
 replace Q := Q.alloc Q.size (.cells #[.int .u64 (lz x ap 0), .int .u64 (lz x ap 1), .int .u64 (lz x ap 2), .int .u64 (lz x ap 3)] 24)
 go_wp2_with fail
 clear k300 k301 k302 k303 k304 k305 k306 k307 k308 k309 k310 k311
 obtain ⟨W8, hW8⟩ : ∃ W8, (v299.alloc (.cells #[.int .u64 (lz x ap 0), .int .u64 (lz x ap 1), .int .u64 (lz x ap 2), .int .u64 (lz x ap 3)] 24)) = W8 := ⟨_, rfl⟩
 rw [hW8] at LA LS LK LX LY Q ⊢
 clear hW8
 generalize v299.heap.size = b8 at *
 refine ((HB.out.store x hx1 ap hap).1 _).mono ?_
 rintro e v312 ⟨rfl, q⟩
 replace LA := LA.later q
 replace LS := LS.later q
 replace LK := LK.later q
 replace LX := LX.later q
 replace LY := LY.later q
 replace Q := Q.trans (q.mono Q.size)
 clear q
 have k313 := LA.cell 0 _ rfl
 have k314 := LA.cell 1 _ rfl
 have k315 := LA.cell 2 _ rfl
 have k316 := LA.cell 3 _ rfl
 go_wp2_with fail
 clear k313 k314 k315 k316
 refine ((HB.out.store x hx1 ap hap).2 _).mono ?_
 rintro e v317 ⟨rfl, q⟩
 replace LA := LA.later q
 replace LS := LS.later q
 replace LK := LK.later q
 replace LX := LX.later q
 replace LY := LY.later q
 replace Q := Q.trans (q.mono Q.size)
 clear q
 have k318 := LA.cell 0 _ rfl
 have k319 := LA.cell 1 _ rfl
 have k320 := LA.cell 2 _ rfl
 have k321 := LA.cell 3 _ rfl
 have k322 := LX.cell 0 _ rfl
 have k323 := LX.cell 1 _ rfl
 have k324 := LX.cell 2 _ rfl
 have k325 := LX.cell 3 _ rfl
 have k326 := LY.cell 0 _ rfl
 have k327 := LY.cell 1 _ rfl
 have k328 := LY.cell 2 _ rfl
 have k329 := LY.cell 3 _ rfl
 go_wp2_with fail
 clear k318 k319 k320 k321 k322 k323 k324 k325 k326 k327 k328 k329
 refine ((HB.out.byte x hx1 ap hap).1 _).mono ?_
 rintro e v330 ⟨rfl, q⟩
 replace LA := LA.later q
 replace LS := LS.later q
 replace LK := LK.later q
 replace LX := LX.later q
 replace LY := LY.later q
 replace Q := Q.trans (q.mono Q.size)
 clear q
 clear LX
 clear LY
 have k331 := LA.cell 0 _ rfl
 have k332 := LA.cell 1 _ rfl
 have k333 := LA.cell 2 _ rfl
 have k334 := LA.cell 3 _ rfl
 go_wp2_with fail
 clear k331 k332 k333 k334
 refine ((HB.out.byte x hx1 ap hap).2 _).mono ?_
 rintro e v335 ⟨rfl, q⟩
 replace LA := LA.later q
 replace LS := LS.later q
 replace LK := LK.later q
 replace Q := Q.trans (q.mono Q.size)
 clear q
 go_wp2_with fail
 refine ((HB.out.copy x hx1 ap hap).1 _).mono ?_
 rintro e v336 ⟨rfl, q⟩
 replace LA := LA.later q
 replace LS := LS.later q
 replace LK := LK.later q
 replace Q := Q.trans (q.mono Q.size)
 clear q
 go_wp2_with fail
 refine ((HB.out.copy x hx1 ap hap).2 _).mono ?_
 rintro e v337 ⟨rfl, q⟩
 replace LA := LA.later q
 replace LS := LS.later q
 replace LK := LK.later q
 replace Q := Q.trans (q.mono Q.size)
 clear q
 go_wp2_with fail
 refine (Hq7.out _).mono ?_
 rintro e v338 ⟨rfl, q⟩
 replace LA := LA.later q
 replace LS := LS.later q
 replace LK := LK.later q
 replace Q := Q.trans (q.mono Q.size)
 clear q
 replace LA := LA.alloc (.cells #[.int .i64 n, .int .i64 k1] 3)
 replace LS := LS.alloc (.cells #[.int .i64 n, .int .i64 k1] 3)
 replace LK := LK.alloc (.cells #[.int .i64 n, .int .i64 k1] 3)
 have LI := Has.new v338 3 #[.int .i64 n, .int .i64 k1]
 replace Q := Q.alloc Q.size (.cells #[.int .i64 n, .int .i64 k1] 3)
 go_wp2
 obtain ⟨V9, hV9⟩ : ∃ V9, v338.alloc (.cells #[.int .i64 n, .int .i64 k1] 3) = V9 := ⟨_, rfl⟩
 rw [hV9] at LA LS LK LI Q ⊢
 clear hV9
 generalize v338.heap.size = g4xap at *
 refine wp_loop_rounds 3 ?_
 rw [rounds_succ]
 have k339 := LI.cell 0 _ rfl
 have k340 := LI.cell 1 _ rfl
 go_wp2_with fail
 clear k339 k340
 refine ((HB.out.slice x hx1 ap hap n).1 _).mono ?_
 rintro e v341 ⟨rfl, q⟩
 replace LA := LA.later q
 replace LS := LS.later q
 replace LK := LK.later q
 replace LI := LI.later q
 replace Q := Q.trans (q.mono Q.size)
 clear q
 go_wp2_with fail
 refine ((HB.out.slice x hx1 ap hap n).2 _).mono ?_
 rintro e v342 ⟨rfl, q⟩
 replace LA := LA.later q
 replace LS := LS.later q
 replace LK := LK.later q
 replace LI := LI.later q
 replace Q := Q.trans (q.mono Q.size)
 clear q
 go_wp2_with fail
 refine ((HB.out.of ap hap) _).mono ?_
 rintro e v343 ⟨rfl, q⟩
 replace LA := LA.later q
 replace LS := LS.later q
 replace LK := LK.later q
 replace LI := LI.later q
 replace Q := Q.trans (q.mono Q.size)
 clear q
 go_wp2_with fail
 refine ((HB.out.piece x hx1 ap hap n3).1 _).mono ?_
 rintro e v344 ⟨rfl, q⟩
 replace LA := LA.later q
 replace LS := LS.later q
 replace LK := LK.later q
 replace LI := LI.later q
 replace Q := Q.trans (q.mono Q.size)
 clear q
 go_wp2_with fail
 refine ((HB.out.of ap hap) _).mono ?_
 rintro e v345 ⟨rfl, q⟩
 replace LA := LA.later q
 replace LS := LS.later q
 replace LK := LK.later q
 replace LI := LI.later q
 replace Q := Q.trans (q.mono Q.size)
 clear q
 go_wp2_with fail
 refine ((HB.out.piece x hx1 ap hap n3).2 _).mono ?_
 rintro e v346 ⟨rfl, q⟩
 replace LA := LA.later q
 replace LS := LS.later q
 replace LK := LK.later q
 replace LI := LI.later q
 replace Q := Q.trans (q.mono Q.size)
 clear q
 go_wp2
 rw [rounds_succ]
 have k347 := LI.cell 0 _ rfl
 have k348 := LI.cell 1 _ rfl
 go_wp2_with fail
 clear k347 k348
 refine ((HB.out.slice x hx1 ap hap k1).1 _).mono ?_
 rintro e v349 ⟨rfl, q⟩
 replace LA := LA.later q
 replace LS := LS.later q
 replace LK := LK.later q
 replace LI := LI.later q
 replace Q := Q.trans (q.mono Q.size)
 clear q
 go_wp2_with fail
 refine ((HB.out.slice x hx1 ap hap k1).2 _).mono ?_
 rintro e v350 ⟨rfl, q⟩
 replace LA := LA.later q
 replace LS := LS.later q
 replace LK := LK.later q
 replace LI := LI.later q
 replace Q := Q.trans (q.mono Q.size)
 clear q
 go_wp2_with fail
 refine ((HB.out.of ap hap) _).mono ?_
 rintro e v351 ⟨rfl, q⟩
 replace LA := LA.later q
 replace LS := LS.later q
 replace LK := LK.later q
 replace LI := LI.later q
 replace Q := Q.trans (q.mono Q.size)
 clear q
 go_wp2_with fail
 refine ((HB.out.piece x hx1 ap hap k3).1 _).mono ?_
 rintro e v352 ⟨rfl, q⟩
 replace LA := LA.later q
 replace LS := LS.later q
 replace LK := LK.later q
 replace LI := LI.later q
 replace Q := Q.trans (q.mono Q.size)
 clear q
 go_wp2_with fail
 refine ((HB.out.of ap hap) _).mono ?_
 rintro e v353 ⟨rfl, q⟩
 replace LA := LA.later q
 replace LS := LS.later q
 replace LK := LK.later q
 replace LI := LI.later q
 replace Q := Q.trans (q.mono Q.size)
 clear q
 go_wp2_with fail
 refine ((HB.out.piece x hx1 ap hap k3).2 _).mono ?_
 rintro e v354 ⟨rfl, q⟩
 replace LA := LA.later q
 replace LS := LS.later q
 replace LK := LK.later q
 replace LI := LI.later q
 replace Q := Q.trans (q.mono Q.size)
 clear q
 go_wp2
 rw [rounds_succ]
 clear LI
 go_wp2_with fail
 have k355 : ∀ x : Ext v354, x.w.cell? ⟨w.heap.size, 0, none⟩ = some (.int .u64 (za 0)) := fun x => (LA.later x.below).cell 0 _ rfl
 have k356 : ∀ x : Ext v354, x.w.cell? ⟨w.heap.size, 1, none⟩ = some (.int .u64 (za 1)) := fun x => (LA.later x.below).cell 1 _ rfl
 have k357 : ∀ x : Ext v354, x.w.cell? ⟨w.heap.size, 2, none⟩ = some (.int .u64 (za 2)) := fun x => (LA.later x.below).cell 2 _ rfl
 have k358 : ∀ x : Ext v354, x.w.cell? ⟨w.heap.size, 3, none⟩ = some (.int .u64 (za 3)) := fun x => (LA.later x.below).cell 3 _ rfl
 refine wp_region_quick (C := Grows v354) (by kernel_rfl) (by kernel_rfl) (by kernel_rfl) (grows_refl v354) ?_
 repeat (go_big_quiet_step (first | (with_reducible exact Ret.at Hq7.out _) | (with_reducible exact Ret.at (HB.out.pieceA x hx1 k1).1 _)))
 refine wpQuiet_nil ?_
 rintro _ ⟨z359, rfl⟩
 clear k355 k356 k357 k358
 replace LA := LA.later z359.below
 replace LS := LS.later z359.below
 replace LK := LK.later z359.below
 replace Q := Q.trans (z359.below.mono Q.size)
 generalize z359.w = u359 at *
 go_wp2_with fail
 have k360 : ∀ x : Ext u359, x.w.cell? ⟨w.heap.size, 0, none⟩ = some (.int .u64 (za 0)) := fun x => (LA.later x.below).cell 0 _ rfl
 have k361 : ∀ x : Ext u359, x.w.cell? ⟨w.heap.size, 1, none⟩ = some (.int .u64 (za 1)) := fun x => (LA.later x.below).cell 1 _ rfl
 have k362 : ∀ x : Ext u359, x.w.cell? ⟨w.heap.size, 2, none⟩ = some (.int .u64 (za 2)) := fun x => (LA.later x.below).cell 2 _ rfl
 have k363 : ∀ x : Ext u359, x.w.cell? ⟨w.heap.size, 3, none⟩ = some (.int .u64 (za 3)) := fun x => (LA.later x.below).cell 3 _ rfl
 refine wp_region_quick (C := Grows u359) (by kernel_rfl) (by kernel_rfl) (by kernel_rfl) (grows_refl u359) ?_
 repeat (go_big_quiet_step (first | (with_reducible exact Ret.at Hq7.out _) | (with_reducible exact Ret.at (HB.out.pieceA x hx1 k1).2 _)))
 refine wpQuiet_nil ?_
 rintro _ ⟨z364, rfl⟩
 clear k360 k361 k362 k363
 replace LA := LA.later z364.below
 replace LS := LS.later z364.below
 replace LK := LK.later z364.below
 replace Q := Q.trans (z364.below.mono Q.size)
 generalize z364.w = u364 at *
 go_wp2
 rw [rounds_succ]
 have k365 := LK.cell 0 _ rfl
 have k366 := LK.cell 1 _ rfl
 go_wp2_with fail
 clear k365 k366
 refine ((HB.out.load x hx1 k6 hk6).1 _).mono ?_
 rintro e v367 ⟨rfl, q⟩
 replace LA := LA.later q
 replace LS := LS.later q
 replace LK := LK.later q
 replace Q := Q.trans (q.mono Q.size)
 clear q
 replace LA := LA.alloc (.cells #[.int .u64 (lz x k6 0), .int .u64 (lz x k6 1), .int .u64 (lz x k6 2), .int .u64 (lz x k6 3)] 24)
 replace LS := LS.alloc (.cells #[.int .u64 (lz x k6 0), .int .u64 (lz x k6 1), .int .u64 (lz x k6 2), .int .u64 (lz x k6 3)] 24)
 replace LK := LK.alloc (.cells #[.int .u64 (lz x k6 0), .int .u64 (lz x k6 1), .int .u64 (lz x k6 2), .int .u64 (lz x k6 3)] 24)
 have LX := Has.new v367 24 #[.int .u64 (lz x k6 0), .int .u64 (lz x k6 1), .int .u64 (lz x k6 2), .int .u64 (lz x k6 3)]
 have k368 := LX.cell 0 _ rfl
 have k369 := LX.cell 1 _ rfl
 have k370 := LX.cell 2 _ rfl
 have k371 := LX.cell 3 _ rfl
 replace Q := Q.alloc Q.size (.cells #[.int .u64 (lz x k6 0), .int .u64 (lz x k6 1), .int .u64 (lz x k6 2), .int .u64 (lz x k6 3)] 24)
 go_wp2_with fail
 clear k368 k369 k370 k371
 obtain ⟨W10, hW10⟩ : ∃ W10, (v367.alloc (.cells #[.int .u64 (lz x k6 0), .int .u64 (lz x k6 1), .int .u64 (lz x k6 2), .int .u64 (lz x k6 3)] 24)) = W10 := ⟨_, rfl⟩
 rw [hW10] at LA LS LK LX Q ⊢
 clear hW10
 generalize v367.heap.size = b10 at *
 refine ((HB.out.load x hx1 k6 hk6).2 _).mono ?_
 rintro e v372 ⟨rfl, q⟩
 replace LA := LA.later q
 replace LS := LS.later q
 replace LK := LK.later q
 replace LX := LX.later q
 replace Q := Q.trans (q.mono Q.size)
 clear q
 have k373 := LA.cell 0 _ rfl
 have k374 := LA.cell 1 _ rfl
 have k375 := LA.cell 2 _ rfl
 have k376 := LA.cell 3 _ rfl
 replace LA := LA.alloc (.cells #[.int .u64 (lz x k6 0), .int .u64 (lz x k6 1), .int .u64 (lz x k6 2), .int .u64 (lz x k6 3)] 24)
 replace LS := LS.alloc (.cells #[.int .u64 (lz x k6 0), .int .u64 (lz x k6 1), .int .u64 (lz x k6 2), .int .u64 (lz x k6 3)] 24)
 replace LK := LK.alloc (.cells #[.int .u64 (lz x k6 0), .int .u64 (lz x k6 1), .int .u64 (lz x k6 2), .int .u64 (lz x k6 3)] 24)
 replace LX := LX.alloc (.cells #[.int .u64 (lz x k6 0), .int .u64 (lz x k6 1), .int .u64 (lz x k6 2), .int .u64 (lz x k6 3)] 24)
 have LY := Has.new v372 24 #[.int .u64 (lz x k6 0), .int .u64 (lz x k6 1), .int .u64 (lz x k6 2), .int .u64 (lz x k6 3)]
 have k377 := LA.cell 0 _ rfl
 have k378 := LA.cell 1 _ rfl
 have k379 := LA.cell 2 _ rfl
 have k380 := LA.cell 3 _ rfl
 have k381 := LY.cell 0 _ rfl
 have k382 := LY.cell 1 _ rfl
 have k383 := LY.cell 2 _ rfl
 have k384 := LY.cell 3 _ rfl
 replace Q := Q.alloc Q.size (.cells #[.int .u64 (lz x k6 0), .int .u64 (lz x k6 1), .int .u64 (lz x k6 2), .int .u64 (lz x k6 3)] 24)
 go_wp2_with fail
 clear k373 k374 k375 k376 k377 k378 k379 k380 k381 k382 k383 k384
 obtain ⟨W11, hW11⟩ : ∃ W11, (v372.alloc (.cells #[.int .u64 (lz x k6 0), .int .u64 (lz x k6 1), .int .u64 (lz x k6 2), .int .u64 (lz x k6 3)] 24)) = W11 := ⟨_, rfl⟩
 rw [hW11] at LA LS LK LX LY Q ⊢
 clear hW11
 generalize v372.heap.size = b11 at *
 refine ((HB.out.store x hx1 k6 hk6).1 _).mono ?_
 rintro e v385 ⟨rfl, q⟩
 replace LA := LA.later q
 replace LS := LS.later q
 replace LK := LK.later q
 replace LX := LX.later q
 replace LY := LY.later q
 replace Q := Q.trans (q.mono Q.size)
 clear q
 have k386 := LA.cell 0 _ rfl
 have k387 := LA.cell 1 _ rfl
 have k388 := LA.cell 2 _ rfl
 have k389 := LA.cell 3 _ rfl
 go_wp2_with fail
 clear k386 k387 k388 k389
 refine ((HB.out.store x hx1 k6 hk6).2 _).mono ?_
 rintro e v390 ⟨rfl, q⟩
 replace LA := LA.later q
 replace LS := LS.later q
 replace LK := LK.later q
 replace LX := LX.later q
 replace LY := LY.later q
 replace Q := Q.trans (q.mono Q.size)
 clear q
 have k391 := LA.cell 0 _ rfl
 have k392 := LA.cell 1 _ rfl
 have k393 := LA.cell 2 _ rfl
 have k394 := LA.cell 3 _ rfl
 have k395 := LX.cell 0 _ rfl
 have k396 := LX.cell 1 _ rfl
 have k397 := LX.cell 2 _ rfl
 have k398 := LX.cell 3 _ rfl
 have k399 := LY.cell 0 _ rfl
 have k400 := LY.cell 1 _ rfl
 have k401 := LY.cell 2 _ rfl
 have k402 := LY.cell 3 _ rfl
 go_wp2_with fail
 clear k391 k392 k393 k394 k395 k396 k397 k398 k399 k400 k401 k402
 refine ((HB.out.byte x hx1 k6 hk6).1 _).mono ?_
 rintro e v403 ⟨rfl, q⟩
 replace LA := LA.later q
 replace LS := LS.later q
 replace LK := LK.later q
 replace LX := LX.later q
 replace LY := LY.later q
 replace Q := Q.trans (q.mono Q.size)
 clear q
 clear LX
 clear LY
 have k404 := LA.cell 0 _ rfl
 have k405 := LA.cell 1 _ rfl
 have k406 := LA.cell 2 _ rfl
 have k407 := LA.cell 3 _ rfl
 go_wp2_with fail
 clear k404 k405 k406 k407
 refine ((HB.out.byte x hx1 k6 hk6).2 _).mono ?_
 rintro e v408 ⟨rfl, q⟩
 replace LA := LA.later q
 replace LS := LS.later q
 replace LK := LK.later q
 replace Q := Q.trans (q.mono Q.size)
 clear q
 go_wp2_with fail
 refine ((HB.out.copy x hx1 k6 hk6).1 _).mono ?_
 rintro e v409 ⟨rfl, q⟩
 replace LA := LA.later q
 replace LS := LS.later q
 replace LK := LK.later q
 replace Q := Q.trans (q.mono Q.size)
 clear q
 go_wp2_with fail
 refine ((HB.out.copy x hx1 k6 hk6).2 _).mono ?_
 rintro e v410 ⟨rfl, q⟩
 replace LA := LA.later q
 replace LS := LS.later q
 replace LK := LK.later q
 replace Q := Q.trans (q.mono Q.size)
 clear q
 go_wp2_with fail
 refine (Hq7.out _).mono ?_
 rintro e v411 ⟨rfl, q⟩
 replace LA := LA.later q
 replace LS := LS.later q
 replace LK := LK.later q
 replace Q := Q.trans (q.mono Q.size)
 clear q
 replace LA := LA.alloc (.cells #[.int .i64 n, .int .i64 k1] 3)
 replace LS := LS.alloc (.cells #[.int .i64 n, .int .i64 k1] 3)
 replace LK := LK.alloc (.cells #[.int .i64 n, .int .i64 k1] 3)
 have LI := Has.new v411 3 #[.int .i64 n, .int .i64 k1]
 replace Q := Q.alloc Q.size (.cells #[.int .i64 n, .int .i64 k1] 3)
 go_wp2
 obtain ⟨V12, hV12⟩ : ∃ V12, v411.alloc (.cells #[.int .i64 n, .int .i64 k1] 3) = V12 := ⟨_, rfl⟩
 rw [hV12] at LA LS LK LI Q ⊢
 clear hV12
 generalize v411.heap.size = g4xk6 at *
 refine wp_loop_rounds 3 ?_
 rw [rounds_succ]
 have k412 := LI.cell 0 _ rfl
 have k413 := LI.cell 1 _ rfl
 go_wp2_with fail
 clear k412 k413
 refine ((HB.out.slice x hx1 k6 hk6 n).1 _).mono ?_
 rintro e v414 ⟨rfl, q⟩
 replace LA := LA.later q
 replace LS := LS.later q
 replace LK := LK.later q
 replace LI := LI.later q
 replace Q := Q.trans (q.mono Q.size)
 clear q
 go_wp2_with fail
 refine ((HB.out.slice x hx1 k6 hk6 n).2 _).mono ?_
 rintro e v415 ⟨rfl, q⟩
 replace LA := LA.later q
 replace LS := LS.later q
 replace LK := LK.later q
 replace LI := LI.later q
 replace Q := Q.trans (q.mono Q.size)
 clear q
 go_wp2_with fail
 refine ((HB.out.of k6 hk6) _).mono ?_
 rintro e v416 ⟨rfl, q⟩
 replace LA := LA.later q
 replace LS := LS.later q
 replace LK := LK.later q
 replace LI := LI.later q
 replace Q := Q.trans (q.mono Q.size)
 clear q
 go_wp2_with fail
 refine ((HB.out.piece x hx1 k6 hk6 n3).1 _).mono ?_
 rintro e v417 ⟨rfl, q⟩
 replace LA := LA.later q
 replace LS := LS.later q
 replace LK := LK.later q
 replace LI := LI.later q
 replace Q := Q.trans (q.mono Q.size)
 clear q
 go_wp2_with fail
 refine ((HB.out.of k6 hk6) _).mono ?_
 rintro e v418 ⟨rfl, q⟩
 replace LA := LA.later q
 replace LS := LS.later q
 replace LK := LK.later q
 replace LI := LI.later q
 replace Q := Q.trans (q.mono Q.size)
 clear q
 go_wp2_with fail
 refine ((HB.out.piece x hx1 k6 hk6 n3).2 _).mono ?_
 rintro e v419 ⟨rfl, q⟩
 replace LA := LA.later q
 replace LS := LS.later q
 replace LK := LK.later q
 replace LI := LI.later q
 replace Q := Q.trans (q.mono Q.size)
 clear q
 go_wp2
 rw [rounds_succ]
 have k420 := LI.cell 0 _ rfl
 have k421 := LI.cell 1 _ rfl
 go_wp2_with fail
 clear k420 k421
 refine ((HB.out.slice x hx1 k6 hk6 k1).1 _).mono ?_
 rintro e v422 ⟨rfl, q⟩
 replace LA := LA.later q
 replace LS := LS.later q
 replace LK := LK.later q
 replace LI := LI.later q
 replace Q := Q.trans (q.mono Q.size)
 clear q
 go_wp2_with fail
 refine ((HB.out.slice x hx1 k6 hk6 k1).2 _).mono ?_
 rintro e v423 ⟨rfl, q⟩
 replace LA := LA.later q
 replace LS := LS.later q
 replace LK := LK.later q
 replace LI := LI.later q
 replace Q := Q.trans (q.mono Q.size)
 clear q
 go_wp2_with fail
 refine ((HB.out.of k6 hk6) _).mono ?_
 rintro e v424 ⟨rfl, q⟩
 replace LA := LA.later q
 replace LS := LS.later q
 replace LK := LK.later q
 replace LI := LI.later q
 replace Q := Q.trans (q.mono Q.size)
 clear q
 go_wp2_with fail
 refine ((HB.out.piece x hx1 k6 hk6 k3).1 _).mono ?_
 rintro e v425 ⟨rfl, q⟩
 replace LA := LA.later q
 replace LS := LS.later q
 replace LK := LK.later q
 replace LI := LI.later q
 replace Q := Q.trans (q.mono Q.size)
 clear q
 go_wp2_with fail
 refine ((HB.out.of k6 hk6) _).mono ?_
 rintro e v426 ⟨rfl, q⟩
 replace LA := LA.later q
 replace LS := LS.later q
 replace LK := LK.later q
 replace LI := LI.later q
 replace Q := Q.trans (q.mono Q.size)
 clear q
 go_wp2_with fail
 refine ((HB.out.piece x hx1 k6 hk6 k3).2 _).mono ?_
 rintro e v427 ⟨rfl, q⟩
 replace LA := LA.later q
 replace LS := LS.later q
 replace LK := LK.later q
 replace LI := LI.later q
 replace Q := Q.trans (q.mono Q.size)
 clear q
 go_wp2
 rw [rounds_succ]
 clear LI
 go_wp2_with fail
 have k428 : ∀ x : Ext v427, x.w.cell? ⟨w.heap.size, 0, none⟩ = some (.int .u64 (za 0)) := fun x => (LA.later x.below).cell 0 _ rfl
 have k429 : ∀ x : Ext v427, x.w.cell? ⟨w.heap.size, 1, none⟩ = some (.int .u64 (za 1)) := fun x => (LA.later x.below).cell 1 _ rfl
 have k430 : ∀ x : Ext v427, x.w.cell? ⟨w.heap.size, 2, none⟩ = some (.int .u64 (za 2)) := fun x => (LA.later x.below).cell 2 _ rfl
 have k431 : ∀ x : Ext v427, x.w.cell? ⟨w.heap.size, 3, none⟩ = some (.int .u64 (za 3)) := fun x => (LA.later x.below).cell 3 _ rfl
 refine wp_region_quick (C := Grows v427) (by kernel_rfl) (by kernel_rfl) (by kernel_rfl) (grows_refl v427) ?_
 repeat (go_big_quiet_step (first | (with_reducible exact Ret.at Hq7.out _) | (with_reducible exact Ret.at (HB.out.pieceA x hx1 k1).1 _)))
 refine wpQuiet_nil ?_
 rintro _ ⟨z432, rfl⟩
 clear k428 k429 k430 k431
 replace LA := LA.later z432.below
 replace LS := LS.later z432.below
 replace LK := LK.later z432.below
 replace Q := Q.trans (z432.below.mono Q.size)
 generalize z432.w = u432 at *
 go_wp2_with fail
 have k433 : ∀ x : Ext u432, x.w.cell? ⟨w.heap.size, 0, none⟩ = some (.int .u64 (za 0)) := fun x => (LA.later x.below).cell 0 _ rfl
 have k434 : ∀ x : Ext u432, x.w.cell? ⟨w.heap.size, 1, none⟩ = some (.int .u64 (za 1)) := fun x => (LA.later x.below).cell 1 _ rfl
 have k435 : ∀ x : Ext u432, x.w.cell? ⟨w.heap.size, 2, none⟩ = some (.int .u64 (za 2)) := fun x => (LA.later x.below).cell 2 _ rfl
 have k436 : ∀ x : Ext u432, x.w.cell? ⟨w.heap.size, 3, none⟩ = some (.int .u64 (za 3)) := fun x => (LA.later x.below).cell 3 _ rfl
 refine wp_region_quick (C := Grows u432) (by kernel_rfl) (by kernel_rfl) (by kernel_rfl) (grows_refl u432) ?_
 repeat (go_big_quiet_step (first | (with_reducible exact Ret.at Hq7.out _) | (with_reducible exact Ret.at (HB.out.pieceA x hx1 k1).2 _)))
 refine wpQuiet_nil ?_
 rintro _ ⟨z437, rfl⟩
 clear k433 k434 k435 k436
 replace LA := LA.later z437.below
 replace LS := LS.later z437.below
 replace LK := LK.later z437.below
 replace Q := Q.trans (z437.below.mono Q.size)
 generalize z437.w = u437 at *
 go_wp2
 rw [rounds_succ]
 clear LK
 go_wp2
 rw [rounds_succ]
 have k438 := LS.cell 0 _ rfl
 have k439 := LS.cell 1 _ rfl
 go_wp2_with fail
 clear k438 k439
 refine (Hq4.out _).mono ?_
 rintro e v440 ⟨rfl, q⟩
 replace LA := LA.later q
 replace LS := LS.later q
 replace Q := Q.trans (q.mono Q.size)
 clear q
 go_wp2_with fail
 refine ((HB.out.grow y hy1 p4).1 _).mono ?_
 rintro e v441 ⟨rfl, q⟩
 replace LA := LA.later q
 replace LS := LS.later q
 replace Q := Q.trans (q.mono Q.size)
 clear q
 go_wp2_with fail
 refine (Hq4.out _).mono ?_
 rintro e v442 ⟨rfl, q⟩
 replace LA := LA.later q
 replace LS := LS.later q
 replace Q := Q.trans (q.mono Q.size)
 clear q
 go_wp2_with fail
 refine ((HB.out.grow y hy1 p4).2 _).mono ?_
 rintro e v443 ⟨rfl, q⟩
 replace LA := LA.later q
 replace LS := LS.later q
 replace Q := Q.trans (q.mono Q.size)
 clear q
 go_wp2_with fail
 refine ((HB.out.grow y hy1 n4).1 _).mono ?_
 rintro e v444 ⟨rfl, q⟩
 replace LA := LA.later q
 replace LS := LS.later q
 replace Q := Q.trans (q.mono Q.size)
 clear q
 go_wp2_with fail
 refine ((HB.out.grow y hy1 n4).2 _).mono ?_
 rintro e v445 ⟨rfl, q⟩
 replace LA := LA.later q
 replace LS := LS.later q
 replace Q := Q.trans (q.mono Q.size)
 clear q
 go_wp2_with fail
 refine (Hq6.out _).mono ?_
 rintro e v446 ⟨rfl, q⟩
 replace LA := LA.later q
 replace LS := LS.later q
 replace Q := Q.trans (q.mono Q.size)
 clear q
 replace LA := LA.alloc (.cells #[.int .i64 ap, .int .i64 k6] 3)
 replace LS := LS.alloc (.cells #[.int .i64 ap, .int .i64 k6] 3)
 have LK := Has.new v446 3 #[.int .i64 ap, .int .i64 k6]
 replace Q := Q.alloc Q.size (.cells #[.int .i64 ap, .int .i64 k6] 3)
 go_wp2
 obtain ⟨V13, hV13⟩ : ∃ V13, v446.alloc (.cells #[.int .i64 ap, .int .i64 k6] 3) = V13 := ⟨_, rfl⟩
 rw [hV13] at LA LS LK Q ⊢
 clear hV13
 generalize v446.heap.size = g3y at *
 refine wp_loop_rounds 3 ?_
 rw [rounds_succ]
 have k447 := LK.cell 0 _ rfl
 have k448 := LK.cell 1 _ rfl
 go_wp2_with fail
 clear k447 k448
 refine ((HB.out.load y hy1 ap hap).1 _).mono ?_
 rintro e v449 ⟨rfl, q⟩
 replace LA := LA.later q
 replace LS := LS.later q
 replace LK := LK.later q
 replace Q := Q.trans (q.mono Q.size)
 clear q
 replace LA := LA.alloc (.cells #[.int .u64 (lz y ap 0), .int .u64 (lz y ap 1), .int .u64 (lz y ap 2), .int .u64 (lz y ap 3)] 24)
 replace LS := LS.alloc (.cells #[.int .u64 (lz y ap 0), .int .u64 (lz y ap 1), .int .u64 (lz y ap 2), .int .u64 (lz y ap 3)] 24)
 replace LK := LK.alloc (.cells #[.int .u64 (lz y ap 0), .int .u64 (lz y ap 1), .int .u64 (lz y ap 2), .int .u64 (lz y ap 3)] 24)
 have LX := Has.new v449 24 #[.int .u64 (lz y ap 0), .int .u64 (lz y ap 1), .int .u64 (lz y ap 2), .int .u64 (lz y ap 3)]
 have k450 := LX.cell 0 _ rfl
 have k451 := LX.cell 1 _ rfl
 have k452 := LX.cell 2 _ rfl
 have k453 := LX.cell 3 _ rfl
 replace Q := Q.alloc Q.size (.cells #[.int .u64 (lz y ap 0), .int .u64 (lz y ap 1), .int .u64 (lz y ap 2), .int .u64 (lz y ap 3)] 24)
 go_wp2_with fail
 clear k450 k451 k452 k453
 obtain ⟨W14, hW14⟩ : ∃ W14, (v449.alloc (.cells #[.int .u64 (lz y ap 0), .int .u64 (lz y ap 1), .int .u64 (lz y ap 2), .int .u64 (lz y ap 3)] 24)) = W14 := ⟨_, rfl⟩
 rw [hW14] at LA LS LK LX Q ⊢
 clear hW14
 generalize v449.heap.size = b14 at *
 refine ((HB.out.load y hy1 ap hap).2 _).mono ?_
 rintro e v454 ⟨rfl, q⟩
 replace LA := LA.later q
 replace LS := LS.later q
 replace LK := LK.later q
 replace LX := LX.later q
 replace Q := Q.trans (q.mono Q.size)
 clear q
 have k455 := LA.cell 0 _ rfl
 have k456 := LA.cell 1 _ rfl
 have k457 := LA.cell 2 _ rfl
 have k458 := LA.cell 3 _ rfl
 replace LA := LA.alloc (.cells #[.int .u64 (lz y ap 0), .int .u64 (lz y ap 1), .int .u64 (lz y ap 2), .int .u64 (lz y ap 3)] 24)
 replace LS := LS.alloc (.cells #[.int .u64 (lz y ap 0), .int .u64 (lz y ap 1), .int .u64 (lz y ap 2), .int .u64 (lz y ap 3)] 24)
 replace LK := LK.alloc (.cells #[.int .u64 (lz y ap 0), .int .u64 (lz y ap 1), .int .u64 (lz y ap 2), .int .u64 (lz y ap 3)] 24)
 replace LX := LX.alloc (.cells #[.int .u64 (lz y ap 0), .int .u64 (lz y ap 1), .int .u64 (lz y ap 2), .int .u64 (lz y ap 3)] 24)
 have LY := Has.new v454 24 #[.int .u64 (lz y ap 0), .int .u64 (lz y ap 1), .int .u64 (lz y ap 2), .int .u64 (lz y ap 3)]
 have k459 := LA.cell 0 _ rfl
 have k460 := LA.cell 1 _ rfl
 have k461 := LA.cell 2 _ rfl
 have k462 := LA.cell 3 _ rfl
 have k463 := LY.cell 0 _ rfl
 have k464 := LY.cell 1 _ rfl
 have k465 := LY.cell 2 _ rfl
 have k466 := LY.cell 3 _ rfl
 replace Q := Q.alloc Q.size (.cells #[.int .u64 (lz y ap 0), .int .u64 (lz y ap 1), .int .u64 (lz y ap 2), .int .u64 (lz y ap 3)] 24)
 go_wp2_with fail
 clear k455 k456 k457 k458 k459 k460 k461 k462 k463 k464 k465 k466
 obtain ⟨W15, hW15⟩ : ∃ W15, (v454.alloc (.cells #[.int .u64 (lz y ap 0), .int .u64 (lz y ap 1), .int .u64 (lz y ap 2), .int .u64 (lz y ap 3)] 24)) = W15 := ⟨_, rfl⟩
 rw [hW15] at LA LS LK LX LY Q ⊢
 clear hW15
 generalize v454.heap.size = b15 at *
 refine ((HB.out.store y hy1 ap hap).1 _).mono ?_
 rintro e v467 ⟨rfl, q⟩
 replace LA := LA.later q
 replace LS := LS.later q
 replace LK := LK.later q
 replace LX := LX.later q
 replace LY := LY.later q
 replace Q := Q.trans (q.mono Q.size)
 clear q
 have k468 := LA.cell 0 _ rfl
 have k469 := LA.cell 1 _ rfl
 have k470 := LA.cell 2 _ rfl
 have k471 := LA.cell 3 _ rfl
 go_wp2_with fail
 clear k468 k469 k470 k471
 refine ((HB.out.store y hy1 ap hap).2 _).mono ?_
 rintro e v472 ⟨rfl, q⟩
 replace LA := LA.later q
 replace LS := LS.later q
 replace LK := LK.later q
 replace LX := LX.later q
 replace LY := LY.later q
 replace Q := Q.trans (q.mono Q.size)
 clear q
 have k473 := LA.cell 0 _ rfl
 have k474 := LA.cell 1 _ rfl
 have k475 := LA.cell 2 _ rfl
 have k476 := LA.cell 3 _ rfl
 have k477 := LX.cell 0 _ rfl
 have k478 := LX.cell 1 _ rfl
 have k479 := LX.cell 2 _ rfl
 have k480 := LX.cell 3 _ rfl
 have k481 := LY.cell 0 _ rfl
 have k482 := LY.cell 1 _ rfl
 have k483 := LY.cell 2 _ rfl
 have k484 := LY.cell 3 _ rfl
 go_wp2_with fail
 clear k473 k474 k475 k476 k477 k478 k479 k480 k481 k482 k483 k484
 refine ((HB.out.byte y hy1 ap hap).1 _).mono ?_
 rintro e v485 ⟨rfl, q⟩
 replace LA := LA.later q
 replace LS := LS.later q
 replace LK := LK.later q
 replace LX := LX.later q
 replace LY := LY.later q
 replace Q := Q.trans (q.mono Q.size)
 clear q
 clear LX
 clear LY
 have k486 := LA.cell 0 _ rfl
 have k487 := LA.cell 1 _ rfl
 have k488 := LA.cell 2 _ rfl
 have k489 := LA.cell 3 _ rfl
 go_wp2_with fail
 clear k486 k487 k488 k489
 refine ((HB.out.byte y hy1 ap hap).2 _).mono ?_
 rintro e v490 ⟨rfl, q⟩
 replace LA := LA.later q
 replace LS := LS.later q
 replace LK := LK.later q
 replace Q := Q.trans (q.mono Q.size)
 clear q
 go_wp2_with fail
 refine ((HB.out.copy y hy1 ap hap).1 _).mono ?_
 rintro e v491 ⟨rfl, q⟩
 replace LA := LA.later q
 replace LS := LS.later q
 replace LK := LK.later q
 replace Q := Q.trans (q.mono Q.size)
 clear q
 go_wp2_with fail
 refine ((HB.out.copy y hy1 ap hap).2 _).mono ?_
 rintro e v492 ⟨rfl, q⟩
 replace LA := LA.later q
 replace LS := LS.later q
 replace LK := LK.later q
 replace Q := Q.trans (q.mono Q.size)
 clear q
 go_wp2_with fail
 refine (Hq7.out _).mono ?_
 rintro e v493 ⟨rfl, q⟩
 replace LA := LA.later q
 replace LS := LS.later q
 replace LK := LK.later q
 replace Q := Q.trans (q.mono Q.size)
 clear q
 replace LA := LA.alloc (.cells #[.int .i64 n, .int .i64 k1] 3)
 replace LS := LS.alloc (.cells #[.int .i64 n, .int .i64 k1] 3)
 replace LK := LK.alloc (.cells #[.int .i64 n, .int .i64 k1] 3)
 have LI := Has.new v493 3 #[.int .i64 n, .int .i64 k1]
 replace Q := Q.alloc Q.size (.cells #[.int .i64 n, .int .i64 k1] 3)
 go_wp2
 obtain ⟨V16, hV16⟩ : ∃ V16, v493.alloc (.cells #[.int .i64 n, .int .i64 k1] 3) = V16 := ⟨_, rfl⟩
 rw [hV16] at LA LS LK LI Q ⊢
 clear hV16
 generalize v493.heap.size = g4yap at *
 refine wp_loop_rounds 3 ?_
 rw [rounds_succ]
 have k494 := LI.cell 0 _ rfl
 have k495 := LI.cell 1 _ rfl
 go_wp2_with fail
 clear k494 k495
 refine ((HB.out.slice y hy1 ap hap n).1 _).mono ?_
 rintro e v496 ⟨rfl, q⟩
 replace LA := LA.later q
 replace LS := LS.later q
 replace LK := LK.later q
 replace LI := LI.later q
 replace Q := Q.trans (q.mono Q.size)
 clear q
 go_wp2_with fail
 refine ((HB.out.slice y hy1 ap hap n).2 _).mono ?_
 rintro e v497 ⟨rfl, q⟩
 replace LA := LA.later q
 replace LS := LS.later q
 replace LK := LK.later q
 replace LI := LI.later q
 replace Q := Q.trans (q.mono Q.size)
 clear q
 go_wp2_with fail
 refine ((HB.out.of ap hap) _).mono ?_
 rintro e v498 ⟨rfl, q⟩
 replace LA := LA.later q
 replace LS := LS.later q
 replace LK := LK.later q
 replace LI := LI.later q
 replace Q := Q.trans (q.mono Q.size)
 clear q
 go_wp2_with fail
 refine ((HB.out.piece y hy1 ap hap n3).1 _).mono ?_
 rintro e v499 ⟨rfl, q⟩
 replace LA := LA.later q
 replace LS := LS.later q
 replace LK := LK.later q
 replace LI := LI.later q
 replace Q := Q.trans (q.mono Q.size)
 clear q
 go_wp2_with fail
 refine ((HB.out.of ap hap) _).mono ?_
 rintro e v500 ⟨rfl, q⟩
 replace LA := LA.later q
 replace LS := LS.later q
 replace LK := LK.later q
 replace LI := LI.later q
 replace Q := Q.trans (q.mono Q.size)
 clear q
 go_wp2_with fail
 refine ((HB.out.piece y hy1 ap hap n3).2 _).mono ?_
 rintro e v501 ⟨rfl, q⟩
 replace LA := LA.later q
 replace LS := LS.later q
 replace LK := LK.later q
 replace LI := LI.later q
 replace Q := Q.trans (q.mono Q.size)
 clear q
 go_wp2
 rw [rounds_succ]
 have k502 := LI.cell 0 _ rfl
 have k503 := LI.cell 1 _ rfl
 go_wp2_with fail
 clear k502 k503
 refine ((HB.out.slice y hy1 ap hap k1).1 _).mono ?_
 rintro e v504 ⟨rfl, q⟩
 replace LA := LA.later q
 replace LS := LS.later q
 replace LK := LK.later q
 replace LI := LI.later q
 replace Q := Q.trans (q.mono Q.size)
 clear q
 go_wp2_with fail
 refine ((HB.out.slice y hy1 ap hap k1).2 _).mono ?_
 rintro e v505 ⟨rfl, q⟩
 replace LA := LA.later q
 replace LS := LS.later q
 replace LK := LK.later q
 replace LI := LI.later q
 replace Q := Q.trans (q.mono Q.size)
 clear q
 go_wp2_with fail
 refine ((HB.out.of ap hap) _).mono ?_
 rintro e v506 ⟨rfl, q⟩
 replace LA := LA.later q
 replace LS := LS.later q
 replace LK := LK.later q
 replace LI := LI.later q
 replace Q := Q.trans (q.mono Q.size)
 clear q
 go_wp2_with fail
 refine ((HB.out.piece y hy1 ap hap k3).1 _).mono ?_
 rintro e v507 ⟨rfl, q⟩
 replace LA := LA.later q
 replace LS := LS.later q
 replace LK := LK.later q
 replace LI := LI.later q
 replace Q := Q.trans (q.mono Q.size)
 clear q
 go_wp2_with fail
 refine ((HB.out.of ap hap) _).mono ?_
 rintro e v508 ⟨rfl, q⟩
 replace LA := LA.later q
 replace LS := LS.later q
 replace LK := LK.later q
 replace LI := LI.later q
 replace Q := Q.trans (q.mono Q.size)
 clear q
 go_wp2_with fail
 refine ((HB.out.piece y hy1 ap hap k3).2 _).mono ?_
 rintro e v509 ⟨rfl, q⟩
 replace LA := LA.later q
 replace LS := LS.later q
 replace LK := LK.later q
 replace LI := LI.later q
 replace Q := Q.trans (q.mono Q.size)
 clear q
 go_wp2
 rw [rounds_succ]
 clear LI
 go_wp2_with fail
 have k510 : ∀ x : Ext v509, x.w.cell? ⟨w.heap.size, 0, none⟩ = some (.int .u64 (za 0)) := fun x => (LA.later x.below).cell 0 _ rfl
 have k511 : ∀ x : Ext v509, x.w.cell? ⟨w.heap.size, 1, none⟩ = some (.int .u64 (za 1)) := fun x => (LA.later x.below).cell 1 _ rfl
 have k512 : ∀ x : Ext v509, x.w.cell? ⟨w.heap.size, 2, none⟩ = some (.int .u64 (za 2)) := fun x => (LA.later x.below).cell 2 _ rfl
 have k513 : ∀ x : Ext v509, x.w.cell? ⟨w.heap.size, 3, none⟩ = some (.int .u64 (za 3)) := fun x => (LA.later x.below).cell 3 _ rfl
 refine wp_region_quick (C := Grows v509) (by kernel_rfl) (by kernel_rfl) (by kernel_rfl) (grows_refl v509) ?_
 repeat (go_big_quiet_step (first | (with_reducible exact Ret.at Hq7.out _) | (with_reducible exact Ret.at (HB.out.pieceA y hy1 k1).1 _)))
 refine wpQuiet_nil ?_
 rintro _ ⟨z514, rfl⟩
 clear k510 k511 k512 k513
 replace LA := LA.later z514.below
 replace LS := LS.later z514.below
 replace LK := LK.later z514.below
 replace Q := Q.trans (z514.below.mono Q.size)
 generalize z514.w = u514 at *
 go_wp2_with fail
 have k515 : ∀ x : Ext u514, x.w.cell? ⟨w.heap.size, 0, none⟩ = some (.int .u64 (za 0)) := fun x => (LA.later x.below).cell 0 _ rfl
 have k516 : ∀ x : Ext u514, x.w.cell? ⟨w.heap.size, 1, none⟩ = some (.int .u64 (za 1)) := fun x => (LA.later x.below).cell 1 _ rfl
 have k517 : ∀ x : Ext u514, x.w.cell? ⟨w.heap.size, 2, none⟩ = some (.int .u64 (za 2)) := fun x => (LA.later x.below).cell 2 _ rfl
 have k518 : ∀ x : Ext u514, x.w.cell? ⟨w.heap.size, 3, none⟩ = some (.int .u64 (za 3)) := fun x => (LA.later x.below).cell 3 _ rfl
 refine wp_region_quick (C := Grows u514) (by kernel_rfl) (by kernel_rfl) (by kernel_rfl) (grows_refl u514) ?_
 repeat (go_big_quiet_step (first | (with_reducible exact Ret.at Hq7.out _) | (with_reducible exact Ret.at (HB.out.pieceA y hy1 k1).2 _)))
 refine wpQuiet_nil ?_
 rintro _ ⟨z519, rfl⟩
 clear k515 k516 k517 k518
 replace LA := LA.later z519.below
 replace LS := LS.later z519.below
 replace LK := LK.later z519.below
 replace Q := Q.trans (z519.below.mono Q.size)
 generalize z519.w = u519 at *
 go_wp2
 rw [rounds_succ]
 have k520 := LK.cell 0 _ rfl
 have k521 := LK.cell 1 _ rfl
 go_wp2_with fail
 clear k520 k521
 refine ((HB.out.load y hy1 k6 hk6).1 _).mono ?_
 rintro e v522 ⟨rfl, q⟩
 replace LA := LA.later q
 replace LS := LS.later q
 replace LK := LK.later q
 replace Q := Q.trans (q.mono Q.size)
 clear q
 replace LA := LA.alloc (.cells #[.int .u64 (lz y k6 0), .int .u64 (lz y k6 1), .int .u64 (lz y k6 2), .int .u64 (lz y k6 3)] 24)
 replace LS := LS.alloc (.cells #[.int .u64 (lz y k6 0), .int .u64 (lz y k6 1), .int .u64 (lz y k6 2), .int .u64 (lz y k6 3)] 24)
 replace LK := LK.alloc (.cells #[.int .u64 (lz y k6 0), .int .u64 (lz y k6 1), .int .u64 (lz y k6 2), .int .u64 (lz y k6 3)] 24)
 have LX := Has.new v522 24 #[.int .u64 (lz y k6 0), .int .u64 (lz y k6 1), .int .u64 (lz y k6 2), .int .u64 (lz y k6 3)]
 have k523 := LX.cell 0 _ rfl
 have k524 := LX.cell 1 _ rfl
 have k525 := LX.cell 2 _ rfl
 have k526 := LX.cell 3 _ rfl
 replace Q := Q.alloc Q.size (.cells #[.int .u64 (lz y k6 0), .int .u64 (lz y k6 1), .int .u64 (lz y k6 2), .int .u64 (lz y k6 3)] 24)
 go_wp2_with fail
 clear k523 k524 k525 k526
 obtain ⟨W17, hW17⟩ : ∃ W17, (v522.alloc (.cells #[.int .u64 (lz y k6 0), .int .u64 (lz y k6 1), .int .u64 (lz y k6 2), .int .u64 (lz y k6 3)] 24)) = W17 := ⟨_, rfl⟩
 rw [hW17] at LA LS LK LX Q ⊢
 clear hW17
 generalize v522.heap.size = b17 at *
 refine ((HB.out.load y hy1 k6 hk6).2 _).mono ?_
 rintro e v527 ⟨rfl, q⟩
 replace LA := LA.later q
 replace LS := LS.later q
 replace LK := LK.later q
 replace LX := LX.later q
 replace Q := Q.trans (q.mono Q.size)
 clear q
 have k528 := LA.cell 0 _ rfl
 have k529 := LA.cell 1 _ rfl
 have k530 := LA.cell 2 _ rfl
 have k531 := LA.cell 3 _ rfl
 replace LA := LA.alloc (.cells #[.int .u64 (lz y k6 0), .int .u64 (lz y k6 1), .int .u64 (lz y k6 2), .int .u64 (lz y k6 3)] 24)
 replace LS := LS.alloc (.cells #[.int .u64 (lz y k6 0), .int .u64 (lz y k6 1), .int .u64 (lz y k6 2), .int .u64 (lz y k6 3)] 24)
 replace LK := LK.alloc (.cells #[.int .u64 (lz y k6 0), .int .u64 (lz y k6 1), .int .u64 (lz y k6 2), .int .u64 (lz y k6 3)] 24)
 replace LX := LX.alloc (.cells #[.int .u64 (lz y k6 0), .int .u64 (lz y k6 1), .int .u64 (lz y k6 2), .int .u64 (lz y k6 3)] 24)
 have LY := Has.new v527 24 #[.int .u64 (lz y k6 0), .int .u64 (lz y k6 1), .int .u64 (lz y k6 2), .int .u64 (lz y k6 3)]
 have k532 := LA.cell 0 _ rfl
 have k533 := LA.cell 1 _ rfl
 have k534 := LA.cell 2 _ rfl
 have k535 := LA.cell 3 _ rfl
 have k536 := LY.cell 0 _ rfl
 have k537 := LY.cell 1 _ rfl
 have k538 := LY.cell 2 _ rfl
 have k539 := LY.cell 3 _ rfl
 replace Q := Q.alloc Q.size (.cells #[.int .u64 (lz y k6 0), .int .u64 (lz y k6 1), .int .u64 (lz y k6 2), .int .u64 (lz y k6 3)] 24)
 go_wp2_with fail
 clear k528 k529 k530 k531 k532 k533 k534 k535 k536 k537 k538 k539
 obtain ⟨W18, hW18⟩ : ∃ W18, (v527.alloc (.cells #[.int .u64 (lz y k6 0), .int .u64 (lz y k6 1), .int .u64 (lz y k6 2), .int .u64 (lz y k6 3)] 24)) = W18 := ⟨_, rfl⟩
 rw [hW18] at LA LS LK LX LY Q ⊢
 clear hW18
 generalize v527.heap.size = b18 at *
 refine ((HB.out.store y hy1 k6 hk6).1 _).mono ?_
 rintro e v540 ⟨rfl, q⟩
 replace LA := LA.later q
 replace LS := LS.later q
 replace LK := LK.later q
 replace LX := LX.later q
 replace LY := LY.later q
 replace Q := Q.trans (q.mono Q.size)
 clear q
 have k541 := LA.cell 0 _ rfl
 have k542 := LA.cell 1 _ rfl
 have k543 := LA.cell 2 _ rfl
 have k544 := LA.cell 3 _ rfl
 go_wp2_with fail
 clear k541 k542 k543 k544
 refine ((HB.out.store y hy1 k6 hk6).2 _).mono ?_
 rintro e v545 ⟨rfl, q⟩
 replace LA := LA.later q
 replace LS := LS.later q
 replace LK := LK.later q
 replace LX := LX.later q
 replace LY := LY.later q
 replace Q := Q.trans (q.mono Q.size)
 clear q
 have k546 := LA.cell 0 _ rfl
 have k547 := LA.cell 1 _ rfl
 have k548 := LA.cell 2 _ rfl
 have k549 := LA.cell 3 _ rfl
 have k550 := LX.cell 0 _ rfl
 have k551 := LX.cell 1 _ rfl
 have k552 := LX.cell 2 _ rfl
 have k553 := LX.cell 3 _ rfl
 have k554 := LY.cell 0 _ rfl
 have k555 := LY.cell 1 _ rfl
 have k556 := LY.cell 2 _ rfl
 have k557 := LY.cell 3 _ rfl
 go_wp2_with fail
 clear k546 k547 k548 k549 k550 k551 k552 k553 k554 k555 k556 k557
 refine ((HB.out.byte y hy1 k6 hk6).1 _).mono ?_
 rintro e v558 ⟨rfl, q⟩
 replace LA := LA.later q
 replace LS := LS.later q
 replace LK := LK.later q
 replace LX := LX.later q
 replace LY := LY.later q
 replace Q := Q.trans (q.mono Q.size)
 clear q
 clear LX
 clear LY
 have k559 := LA.cell 0 _ rfl
 have k560 := LA.cell 1 _ rfl
 have k561 := LA.cell 2 _ rfl
 have k562 := LA.cell 3 _ rfl
 go_wp2_with fail
 clear k559 k560 k561 k562
 refine ((HB.out.byte y hy1 k6 hk6).2 _).mono ?_
 rintro e v563 ⟨rfl, q⟩
 replace LA := LA.later q
 replace LS := LS.later q
 replace LK := LK.later q
 replace Q := Q.trans (q.mono Q.size)
 clear q
 go_wp2_with fail
 refine ((HB.out.copy y hy1 k6 hk6).1 _).mono ?_
 rintro e v564 ⟨rfl, q⟩
 replace LA := LA.later q
 replace LS := LS.later q
 replace LK := LK.later q
 replace Q := Q.trans (q.mono Q.size)
 clear q
 go_wp2_with fail
 refine ((HB.out.copy y hy1 k6 hk6).2 _).mono ?_
 rintro e v565 ⟨rfl, q⟩
 replace LA := LA.later q
 replace LS := LS.later q
 replace LK := LK.later q
 replace Q := Q.trans (q.mono Q.size)
 clear q
 go_wp2_with fail
 refine (Hq7.out _).mono ?_
 rintro e v566 ⟨rfl, q⟩
 replace LA := LA.later q
 replace LS := LS.later q
 replace LK := LK.later q
 replace Q := Q.trans (q.mono Q.size)
 clear q
 replace LA := LA.alloc (.cells #[.int .i64 n, .int .i64 k1] 3)
 replace LS := LS.alloc (.cells #[.int .i64 n, .int .i64 k1] 3)
 replace LK := LK.alloc (.cells #[.int .i64 n, .int .i64 k1] 3)
 have LI := Has.new v566 3 #[.int .i64 n, .int .i64 k1]
 replace Q := Q.alloc Q.size (.cells #[.int .i64 n, .int .i64 k1] 3)
 go_wp2
 obtain ⟨V19, hV19⟩ : ∃ V19, v566.alloc (.cells #[.int .i64 n, .int .i64 k1] 3) = V19 := ⟨_, rfl⟩
 rw [hV19] at LA LS LK LI Q ⊢
 clear hV19
 generalize v566.heap.size = g4yk6 at *
 refine wp_loop_rounds 3 ?_
 rw [rounds_succ]
 have k567 := LI.cell 0 _ rfl
 have k568 := LI.cell 1 _ rfl
 go_wp2_with fail
 clear k567 k568
 refine ((HB.out.slice y hy1 k6 hk6 n).1 _).mono ?_
 rintro e v569 ⟨rfl, q⟩
 replace LA := LA.later q
 replace LS := LS.later q
 replace LK := LK.later q
 replace LI := LI.later q
 replace Q := Q.trans (q.mono Q.size)
 clear q
 go_wp2_with fail
 refine ((HB.out.slice y hy1 k6 hk6 n).2 _).mono ?_
 rintro e v570 ⟨rfl, q⟩
 replace LA := LA.later q
 replace LS := LS.later q
 replace LK := LK.later q
 replace LI := LI.later q
 replace Q := Q.trans (q.mono Q.size)
 clear q
 go_wp2_with fail
 refine ((HB.out.of k6 hk6) _).mono ?_
 rintro e v571 ⟨rfl, q⟩
 replace LA := LA.later q
 replace LS := LS.later q
 replace LK := LK.later q
 replace LI := LI.later q
 replace Q := Q.trans (q.mono Q.size)
 clear q
 go_wp2_with fail
 refine ((HB.out.piece y hy1 k6 hk6 n3).1 _).mono ?_
 rintro e v572 ⟨rfl, q⟩
 replace LA := LA.later q
 replace LS := LS.later q
 replace LK := LK.later q
 replace LI := LI.later q
 replace Q := Q.trans (q.mono Q.size)
 clear q
 go_wp2_with fail
 refine ((HB.out.of k6 hk6) _).mono ?_
 rintro e v573 ⟨rfl, q⟩
 replace LA := LA.later q
 replace LS := LS.later q
 replace LK := LK.later q
 replace LI := LI.later q
 replace Q := Q.trans (q.mono Q.size)
 clear q
 go_wp2_with fail
 refine ((HB.out.piece y hy1 k6 hk6 n3).2 _).mono ?_
 rintro e v574 ⟨rfl, q⟩
 replace LA := LA.later q
 replace LS := LS.later q
 replace LK := LK.later q
 replace LI := LI.later q
 replace Q := Q.trans (q.mono Q.size)
 clear q
 go_wp2
 rw [rounds_succ]
 have k575 := LI.cell 0 _ rfl
 have k576 := LI.cell 1 _ rfl
 go_wp2_with fail
 clear k575 k576
 refine ((HB.out.slice y hy1 k6 hk6 k1).1 _).mono ?_
 rintro e v577 ⟨rfl, q⟩
 replace LA := LA.later q
 replace LS := LS.later q
 replace LK := LK.later q
 replace LI := LI.later q
 replace Q := Q.trans (q.mono Q.size)
 clear q
 go_wp2_with fail
 refine ((HB.out.slice y hy1 k6 hk6 k1).2 _).mono ?_
 rintro e v578 ⟨rfl, q⟩
 replace LA := LA.later q
 replace LS := LS.later q
 replace LK := LK.later q
 replace LI := LI.later q
 replace Q := Q.trans (q.mono Q.size)
 clear q
 go_wp2_with fail
 refine ((HB.out.of k6 hk6) _).mono ?_
 rintro e v579 ⟨rfl, q⟩
 replace LA := LA.later q
 replace LS := LS.later q
 replace LK := LK.later q
 replace LI := LI.later q
 replace Q := Q.trans (q.mono Q.size)
 clear q
 go_wp2_with fail
 refine ((HB.out.piece y hy1 k6 hk6 k3).1 _).mono ?_
 rintro e v580 ⟨rfl, q⟩
 replace LA := LA.later q
 replace LS := LS.later q
 replace LK := LK.later q
 replace LI := LI.later q
 replace Q := Q.trans (q.mono Q.size)
 clear q
 go_wp2_with fail
 refine ((HB.out.of k6 hk6) _).mono ?_
 rintro e v581 ⟨rfl, q⟩
 replace LA := LA.later q
 replace LS := LS.later q
 replace LK := LK.later q
 replace LI := LI.later q
 replace Q := Q.trans (q.mono Q.size)
 clear q
 go_wp2_with fail
 refine ((HB.out.piece y hy1 k6 hk6 k3).2 _).mono ?_
 rintro e v582 ⟨rfl, q⟩
 replace LA := LA.later q
 replace LS := LS.later q
 replace LK := LK.later q
 replace LI := LI.later q
 replace Q := Q.trans (q.mono Q.size)
 clear q
 go_wp2
 rw [rounds_succ]
 clear LI
 go_wp2_with fail
 have k583 : ∀ x : Ext v582, x.w.cell? ⟨w.heap.size, 0, none⟩ = some (.int .u64 (za 0)) := fun x => (LA.later x.below).cell 0 _ rfl
 have k584 : ∀ x : Ext v582, x.w.cell? ⟨w.heap.size, 1, none⟩ = some (.int .u64 (za 1)) := fun x => (LA.later x.below).cell 1 _ rfl
 have k585 : ∀ x : Ext v582, x.w.cell? ⟨w.heap.size, 2, none⟩ = some (.int .u64 (za 2)) := fun x => (LA.later x.below).cell 2 _ rfl
 have k586 : ∀ x : Ext v582, x.w.cell? ⟨w.heap.size, 3, none⟩ = some (.int .u64 (za 3)) := fun x => (LA.later x.below).cell 3 _ rfl
 refine wp_region_quick (C := Grows v582) (by kernel_rfl) (by kernel_rfl) (by kernel_rfl) (grows_refl v582) ?_
 repeat (go_big_quiet_step (first | (with_reducible exact Ret.at Hq7.out _) | (with_reducible exact Ret.at (HB.out.pieceA y hy1 k1).1 _)))
 refine wpQuiet_nil ?_
 rintro _ ⟨z587, rfl⟩
 clear k583 k584 k585 k586
 replace LA := LA.later z587.below
 replace LS := LS.later z587.below
 replace LK := LK.later z587.below
 replace Q := Q.trans (z587.below.mono Q.size)
 generalize z587.w = u587 at *
 go_wp2_with fail
 have k588 : ∀ x : Ext u587, x.w.cell? ⟨w.heap.size, 0, none⟩ = some (.int .u64 (za 0)) := fun x => (LA.later x.below).cell 0 _ rfl
 have k589 : ∀ x : Ext u587, x.w.cell? ⟨w.heap.size, 1, none⟩ = some (.int .u64 (za 1)) := fun x => (LA.later x.below).cell 1 _ rfl
 have k590 : ∀ x : Ext u587, x.w.cell? ⟨w.heap.size, 2, none⟩ = some (.int .u64 (za 2)) := fun x => (LA.later x.below).cell 2 _ rfl
 have k591 : ∀ x : Ext u587, x.w.cell? ⟨w.heap.size, 3, none⟩ = some (.int .u64 (za 3)) := fun x => (LA.later x.below).cell 3 _ rfl
 refine wp_region_quick (C := Grows u587) (by kernel_rfl) (by kernel_rfl) (by kernel_rfl) (grows_refl u587) ?_
 repeat (go_big_quiet_step (first | (with_reducible exact Ret.at Hq7.out _) | (with_reducible exact Ret.at (HB.out.pieceA y hy1 k1).2 _)))
 refine wpQuiet_nil ?_
 rintro _ ⟨z592, rfl⟩
 clear k588 k589 k590 k591
 replace LA := LA.later z592.below
 replace LS := LS.later z592.below
 replace LK := LK.later z592.below
 replace Q := Q.trans (z592.below.mono Q.size)
 generalize z592.w = u592 at *
 go_wp2
 rw [rounds_succ]
 clear LK
 go_wp2
 rw [rounds_succ]
 go_wp2
 go_ret
 exact ⟨rfl, Q⟩
end Go.Proofs.Ytpolmfmlklmmcaa
