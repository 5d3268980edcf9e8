/- Part. -/
import Derived.Test.YtlihnlkcgiopoaaDoorJ08
import Derived.Test.YtlihnlkcgiopoaaDoorJ10
import Derived.Test.YtlihnlkcgiopoaaDoorJ12
import Derived.Test.YtlihnlkcgiopoaaDoorJ03
set_option maxRecDepth 100000
set_option maxHeartbeats 16000000
namespace Go.Proofs.YtlihnlkcgiopoaaDoor
open Go Go.RowKit
attribute [local go_sem] Oper.semAt_some Grows wide_fn
def uptoK (a : Option Addr) (cap : Nat) : Option Addr := if cap = 0 then a else a.map (·.add (0 * 25))
theorem KeysAt.take {W : World} {a : Option Addr} {n cap : Nat} {l : List Ky} (h : KeysAt W (.slice a n cap) l) (m : Nat) (hm : m ≤ n) : KeysAt W (.slice (uptoK a cap) m cap) (l.take m) := by
 obtain ⟨a', cap', h1, h2, h3, h4, h5⟩ := h
 injection h1 with e1 e2 e3
 subst e1 e3
 refine ⟨_, _, by rw [List.length_take]; congr 1; omega, by rw [List.length_take]; omega, h3, fun x hx => h4 x (List.mem_of_mem_take hx), fun i x hx => ?_⟩
 have hlt := (List.getElem?_eq_some_iff.1 hx).1
 rw [List.length_take] at hlt
 rw [List.getElem?_take, if_pos (by omega)] at hx
 obtain ⟨b, e, hc⟩ := h5 i x hx
 refine ⟨b.add (0 * 25), ?_, fun j u hj => ?_⟩
 ·unfold uptoK
  rw [if_neg (by omega), e]; rfl
 ·have h := hc j u hj
  rw [Addr.add_add] at h
  rw [Addr.add_add, Addr.add_add, show 0 * 25 + (i * 25 + j) = i * 25 + j by omega]
  exact h
theorem run_upto (y : World) (a : Option Addr) (N cap m : Nat) (hm : m ≤ N) (hc : N ≤ cap) (_hm2 : m ≤ 4611686018427387903) : (Instr.sliceAt 28 (.slice a N cap) none (some (.int .i64 (m : Int))) none).run Tryd.prog y = .ok (.slice (uptoK a cap) m cap) y := by
 have hu := run_underlying Tryd.underlying28 (w := y)
 have hz := Tryd.sizeOf58
 have hmc : m ≤ cap := by omega
 unfold uptoK
 by_cases hcc : cap = 0
 ·subst hcc
  simp [Instr.sliceAt, Instr.slice, Instr.sliceBounds, Instr.sliceBound, asIntOf, hu, hz, hmc]
 ·simp [Instr.sliceAt, Instr.slice, Instr.sliceBounds, Instr.sliceBound, asIntOf, hu, hz, hmc, hcc]
theorem wpList_slice_upto {ops : Array Oper} {rest : List Oper} {o : Oper} {a : Act} {w : World} {Q : Exit → Act → World → Prop} (hg : o.guard = none) (x l : Operand) (ho : o.op = .slice 28 x none (some l) none) (v lv sv : Value) (hx : a.eval x = v) (hl : a.eval l = lv) (hr : (Instr.sliceAt 28 v none (some lv) none).run Tryd.prog w = .ok sv w)
  (h : wpList Tryd.prog ops Q rest (a.put o.dst sv) w) : wpList Tryd.prog ops Q (o :: rest) a w := by
 refine wpList_plain hg fun K hK' => ?_
 unfold Oper.wp execOp
 simp only [ho, Sem.run_bind, Sem.run_pure, Result.andThen_ok, Option.map_some, Option.map_none, hx, hl, hr]
 exact hK' _ _ h
def tripL (o c v : Nat) : List Value := [.int .u64 (lim o 0), .int .u64 (lim o 1), .int .u64 (lim o 2), .int .u64 (lim o 3), .int .u64 (lim c 0), .int .u64 (lim c 1), .int .u64 (lim c 2), .int .u64 (lim c 3), .int .u64 (lim v 0), .int .u64 (lim v 1), .int .u64 (lim v 2), .int .u64 (lim v 3)]
theorem trip_load {X : World} {B : Nat} {cs : Array Value} (h : Has X B 36 cs) (k : Nat) {o c v : Nat} (e : (cs.toList.drop (k * 12)).take 12 = tripL o c v) : (loadVar 36 ⟨B, k * 12, none⟩).run Tryd.prog X = .ok (.agg (tripL o c v).toArray) X := by
 refine run_loadVar_mid X B (k * 12) 36 (tripL o c v) _ (fun j u hj => ?_) Tryd.underlying36 rfl (by kernel_rfl)
 rw [← e, List.getElem?_take] at hj
 split at hj
 ·rw [List.getElem?_drop, Array.getElem?_toList] at hj
  exact h.cell _ _ hj
 ·cases hj
theorem word_load {X : World} {B : Nat} {cs : Array Value} (h : Has X B 24 cs) (k : Nat) {l : List Value} (e : (cs.toList.drop (k * 4)).take 4 = l) (h4 : l.length = 4 := by rfl) : (loadVar 24 ⟨B, k * 4, none⟩).run Tryd.prog X = .ok (.agg l.toArray) X := by
 refine run_loadVar_mid X B (k * 4) 24 l _ (fun j u hj => ?_) Tryd.underlying24 rfl (by rw [h4]; kernel_rfl)
 rw [← e, List.getElem?_take] at hj
 split at hj
 ·rw [List.getElem?_drop, Array.getElem?_toList] at hj
  exact h.cell _ _ hj
 ·cases hj
theorem lims_small {n : Nat} {x : Int} (h0 : 0 ≤ x) (h1 : x < 3) (hn : n = x.toNat) : lim n 0 = x ∧ lim n 1 = 0 ∧ lim n 2 = 0 ∧ lim n 3 = 0 ∧ W256 n := by
 obtain rfl : x = (n : Int) := by omega
 have h : n = 0 ∨ n = 1 ∨ n = 2 := by omega
 clear h0 h1 hn
 rcases h with rfl | rfl | rfl <;> exact ⟨rfl, rfl, rfl, rfl, by unfold W256; decide⟩
theorem tells15_any (w : World) (a b c : Nat) (ha : W256 a) (hb : W256 b) (hc : W256 c) (n rf : Int) (hn : I64 n) (hrf : I64 rf) (f0 f1 f2 : Bool) (v1 v2 : Value) (z1 z2 : List (Int × Int)) (h1 : RawAt w v1 z1) (h2 : RawAt w v2 z2)
  (xv yv : Value) (r s : List Ky) (hr : KeysAt w xv r) (hs : KeysAt w yv s) (sd : ByteArray) (hsd : sd.size ≤ 140737488355328) :
  Calls Tryd.prog 3 #[wv a, wv b, wv c, .int .i64 n, .int .i64 rf, .agg #[.bool f0, .bool f1, .bool f2], .agg #[v1, v2], .agg #[xv, yv], .string sd] w fun e w' => e = .returned (.bool true) ∧ Below w.heap.size w w' := by
 have hmx : Tryd.prog.follows .mixedOrders = true := by kernel_rfl
 obtain ⟨ra, rc, rfl, hr1, hr2⟩ := hr.shape
 obtain ⟨sa, sc, rfl, hs1, hs2⟩ := hs.shape
 obtain ⟨ka, kc, rfl, _, _⟩ := id h1
 obtain ⟨la, lc, rfl, _, _⟩ := id h2
 have HR1 := hid h1
 have HR2 := hid h2
 generalize z1.length = l1 at *
 generalize z2.length = l2 at *
 obtain ⟨rn, hrn⟩ : ∃ n, r.length = n := ⟨_, rfl⟩
 obtain ⟨sn, hsn⟩ : ∃ n, s.length = n := ⟨_, rfl⟩
 rw [hrn] at hr hr1 ⊢
 rw [hsn] at hs hs1 ⊢
 obtain ⟨m1, hm1⟩ : ∃ m : Nat, min (rn : Int) 9 = (m : Int) ∧ m ≤ rn ∧ m ≤ 9 := ⟨min rn 9, by omega, by omega, by omega⟩
 obtain ⟨m2, hm2⟩ : ∃ m : Nat, min (sn : Int) 9 = (m : Int) ∧ m ≤ sn ∧ m ≤ 9 := ⟨min sn 9, by omega, by omega, by omega⟩
 have SL1 := hid (fun Y : World => run_upto Y ra rn rc m1 hm1.2.1 hr1 (by omega))
 have SL2 := hid (fun Y : World => run_upto Y sa sn sc m2 hm2.2.1 hs1 (by omega))
 have HTK := hid (And.intro (hr.take m1 hm1.2.1) (hs.take m2 hm2.2.1))
 have HTL := hid (show (r.take m1).length + (s.take m2).length ≤ 50000 by rw [List.length_take, List.length_take]; omega)
 have HMIN := hid (And.intro hm1.1 hm2.1)
 have HIF1 := hid (show (if (9 : Int) < (rn : Int) then (9 : Int) else (rn : Int)) = (m1 : Int) by have := hm1.1; split <;> omega)
 have HIF2 := hid (show (if (9 : Int) < (sn : Int) then (9 : Int) else (sn : Int)) = (m2 : Int) by have := hm2.1; split <;> omega)
 have HIG1 := hid (show (if 9 < rn then (9 : Int) else (rn : Int)) = (m1 : Int) by have := hm1.1; split <;> omega)
 have HIG2 := hid (show (if 9 < sn then (9 : Int) else (sn : Int)) = (m2 : Int) by have := hm2.1; split <;> omega)
 generalize r.take m1 = ta at *
 generalize s.take m2 = tb at *
 have HSD := hid hsd
 have HW := hid (And.intro ha (And.intro hb hc))
 have HN := hid (And.intro hn hrf)
 have HK := hid awakeG_ret
 have P1 := hid (pick_ret n hn 2000 (by decide) (by decide))
 have P2 := hid (pick_ret n hn 60000 (by decide) (by decide))
 have P3 := hid (pick_ret rf hrf 60000 (by decide) (by decide))
 have g1 := pickN_range n 2000 (by decide)
 have g2 := pickN_range n 60000 (by decide)
 have g3 := pickN_range rf 60000 (by decide)
 obtain ⟨p1, e1⟩ : ∃ p, pickN n 2000 = p := ⟨_, rfl⟩
 obtain ⟨p2, e2⟩ : ∃ p, pickN n 60000 = p := ⟨_, rfl⟩
 obtain ⟨p3, e3⟩ : ∃ p : Nat, pickN rf 60000 = (p : Int) := ⟨(pickN rf 60000).toNat, by omega⟩
 rw [e1] at P1 g1
 rw [e2] at P2 g2
 rw [e3] at P3 g3
 have O3 := hid (ofRG p3 (by omega))
 have HG := hid (And.intro g1 (And.intro g2 g3))
 clear e1 e2 e3 g1 g2 g3 hr hs hr1 hr2 hs1 hs2 hrn hsn hm1 hm2 hsd ha hb hc hn hrf h1 h2
 unfold wv
 have Q := Below.refl w.heap.size w
 go_enter Tryd.func3, Tryd.ntmps3
 have LA := Has.new w 24 #[.int .u64 (lim a 0), .int .u64 (lim a 1), .int .u64 (lim a 2), .int .u64 (lim a 3)]
 have k1 := LA.cell 0 _ rfl
 have k2 := LA.cell 1 _ rfl
 have k3 := LA.cell 2 _ rfl
 have k4 := LA.cell 3 _ rfl
 have LA := LA.alloc (.cells #[.int .u64 (lim b 0), .int .u64 (lim b 1), .int .u64 (lim b 2), .int .u64 (lim b 3)] 24)
 have LB := Has.new (w.alloc (.cells #[.int .u64 (lim a 0), .int .u64 (lim a 1), .int .u64 (lim a 2), .int .u64 (lim a 3)] 24)) 24 #[.int .u64 (lim b 0), .int .u64 (lim b 1), .int .u64 (lim b 2), .int .u64 (lim b 3)]
 simp only [World.size_alloc] at LB
 have k5 := LA.cell 0 _ rfl
 have k6 := LA.cell 1 _ rfl
 have k7 := LA.cell 2 _ rfl
 have k8 := LA.cell 3 _ rfl
 have k9 := LB.cell 0 _ rfl
 have k10 := LB.cell 1 _ rfl
 have k11 := LB.cell 2 _ rfl
 have k12 := LB.cell 3 _ rfl
 have LA := LA.alloc (.cells #[.int .u64 (lim c 0), .int .u64 (lim c 1), .int .u64 (lim c 2), .int .u64 (lim c 3)] 24)
 have LB := LB.alloc (.cells #[.int .u64 (lim c 0), .int .u64 (lim c 1), .int .u64 (lim c 2), .int .u64 (lim c 3)] 24)
 have LC := Has.new ((w.alloc (.cells #[.int .u64 (lim a 0), .int .u64 (lim a 1), .int .u64 (lim a 2), .int .u64 (lim a 3)] 24)).alloc (.cells #[.int .u64 (lim b 0), .int .u64 (lim b 1), .int .u64 (lim b 2), .int .u64 (lim b 3)] 24)) 24 #[.int .u64 (lim c 0), .int .u64 (lim c 1), .int .u64 (lim c 2), .int .u64 (lim c 3)]
 simp only [World.size_alloc] at LC
 have k13 := LA.cell 0 _ rfl
 have k14 := LA.cell 1 _ rfl
 have k15 := LA.cell 2 _ rfl
 have k16 := LA.cell 3 _ rfl
 have k17 := LB.cell 0 _ rfl
 have k18 := LB.cell 1 _ rfl
 have k19 := LB.cell 2 _ rfl
 have k20 := LB.cell 3 _ rfl
 have k21 := LC.cell 0 _ rfl
 have k22 := LC.cell 1 _ rfl
 have k23 := LC.cell 2 _ rfl
 have k24 := LC.cell 3 _ rfl
 have LA := LA.alloc (.cells #[.bool f0, .bool f1, .bool f2] 25)
 have LB := LB.alloc (.cells #[.bool f0, .bool f1, .bool f2] 25)
 have LC := LC.alloc (.cells #[.bool f0, .bool f1, .bool f2] 25)
 have LF := Has.new (((w.alloc (.cells #[.int .u64 (lim a 0), .int .u64 (lim a 1), .int .u64 (lim a 2), .int .u64 (lim a 3)] 24)).alloc (.cells #[.int .u64 (lim b 0), .int .u64 (lim b 1), .int .u64 (lim b 2), .int .u64 (lim b 3)] 24)).alloc (.cells #[.int .u64 (lim c 0), .int .u64 (lim c 1), .int .u64 (lim c 2), .int .u64 (lim c 3)] 24)) 25 #[.bool f0, .bool f1, .bool f2]
 simp only [World.size_alloc] at LF
 have k25 := LA.cell 0 _ rfl
 have k26 := LA.cell 1 _ rfl
 have k27 := LA.cell 2 _ rfl
 have k28 := LA.cell 3 _ rfl
 have k29 := LB.cell 0 _ rfl
 have k30 := LB.cell 1 _ rfl
 have k31 := LB.cell 2 _ rfl
 have k32 := LB.cell 3 _ rfl
 have k33 := LC.cell 0 _ rfl
 have k34 := LC.cell 1 _ rfl
 have k35 := LC.cell 2 _ rfl
 have k36 := LC.cell 3 _ rfl
 have k37 := LF.cell 0 _ rfl
 have k38 := LF.cell 1 _ rfl
 have k39 := LF.cell 2 _ rfl
 have LA := LA.alloc (.cells #[.slice ka l1 kc, .slice la l2 lc] 27)
 have LB := LB.alloc (.cells #[.slice ka l1 kc, .slice la l2 lc] 27)
 have LC := LC.alloc (.cells #[.slice ka l1 kc, .slice la l2 lc] 27)
 have LF := LF.alloc (.cells #[.slice ka l1 kc, .slice la l2 lc] 27)
 have LP := Has.new ((((w.alloc (.cells #[.int .u64 (lim a 0), .int .u64 (lim a 1), .int .u64 (lim a 2), .int .u64 (lim a 3)] 24)).alloc (.cells #[.int .u64 (lim b 0), .int .u64 (lim b 1), .int .u64 (lim b 2), .int .u64 (lim b 3)] 24)).alloc (.cells #[.int .u64 (lim c 0), .int .u64 (lim c 1), .int .u64 (lim c 2), .int .u64 (lim c 3)] 24)).alloc (.cells #[.bool f0, .bool f1, .bool f2] 25)) 27 #[.slice ka l1 kc, .slice la l2 lc]
 simp only [World.size_alloc] at LP
 have k40 := LA.cell 0 _ rfl
 have k41 := LA.cell 1 _ rfl
 have k42 := LA.cell 2 _ rfl
 have k43 := LA.cell 3 _ rfl
 have k44 := LB.cell 0 _ rfl
 have k45 := LB.cell 1 _ rfl
 have k46 := LB.cell 2 _ rfl
 have k47 := LB.cell 3 _ rfl
 have k48 := LC.cell 0 _ rfl
 have k49 := LC.cell 1 _ rfl
 have k50 := LC.cell 2 _ rfl
 have k51 := LC.cell 3 _ rfl
 have k52 := LF.cell 0 _ rfl
 have k53 := LF.cell 1 _ rfl
 have k54 := LF.cell 2 _ rfl
 have k55 := LP.cell 0 _ rfl
 have k56 := LP.cell 1 _ rfl
 have LA := LA.alloc (.cells #[.slice ra rn rc, .slice sa sn sc] 30)
 have LB := LB.alloc (.cells #[.slice ra rn rc, .slice sa sn sc] 30)
 have LC := LC.alloc (.cells #[.slice ra rn rc, .slice sa sn sc] 30)
 have LF := LF.alloc (.cells #[.slice ra rn rc, .slice sa sn sc] 30)
 have LP := LP.alloc (.cells #[.slice ra rn rc, .slice sa sn sc] 30)
 have LS := Has.new (((((w.alloc (.cells #[.int .u64 (lim a 0), .int .u64 (lim a 1), .int .u64 (lim a 2), .int .u64 (lim a 3)] 24)).alloc (.cells #[.int .u64 (lim b 0), .int .u64 (lim b 1), .int .u64 (lim b 2), .int .u64 (lim b 3)] 24)).alloc (.cells #[.int .u64 (lim c 0), .int .u64 (lim c 1), .int .u64 (lim c 2), .int .u64 (lim c 3)] 24)).alloc (.cells #[.bool f0, .bool f1, .bool f2] 25)).alloc (.cells #[.slice ka l1 kc, .slice la l2 lc] 27)) 30 #[.slice ra rn rc, .slice sa sn sc]
 simp only [World.size_alloc] at LS
 have k57 := LA.cell 0 _ rfl
 have k58 := LA.cell 1 _ rfl
 have k59 := LA.cell 2 _ rfl
 have k60 := LA.cell 3 _ rfl
 have k61 := LB.cell 0 _ rfl
 have k62 := LB.cell 1 _ rfl
 have k63 := LB.cell 2 _ rfl
 have k64 := LB.cell 3 _ rfl
 have k65 := LC.cell 0 _ rfl
 have k66 := LC.cell 1 _ rfl
 have k67 := LC.cell 2 _ rfl
 have k68 := LC.cell 3 _ rfl
 have k69 := LF.cell 0 _ rfl
 have k70 := LF.cell 1 _ rfl
 have k71 := LF.cell 2 _ rfl
 have k72 := LP.cell 0 _ rfl
 have k73 := LP.cell 1 _ rfl
 have k74 := LS.cell 0 _ rfl
 have k75 := LS.cell 1 _ rfl
 have Q := Q.alloc Q.size (.cells #[.int .u64 (lim a 0), .int .u64 (lim a 1), .int .u64 (lim a 2), .int .u64 (lim a 3)] 24)
 have Q := Q.alloc Q.size (.cells #[.int .u64 (lim b 0), .int .u64 (lim b 1), .int .u64 (lim b 2), .int .u64 (lim b 3)] 24)
 have Q := Q.alloc Q.size (.cells #[.int .u64 (lim c 0), .int .u64 (lim c 1), .int .u64 (lim c 2), .int .u64 (lim c 3)] 24)
 have Q := Q.alloc Q.size (.cells #[.bool f0, .bool f1, .bool f2] 25)
 have Q := Q.alloc Q.size (.cells #[.slice ka l1 kc, .slice la l2 lc] 27)
 have Q := Q.alloc Q.size (.cells #[.slice ra rn rc, .slice sa sn sc] 30)
 go_wp2_with fail
 clear k1 k2 k3 k4 k5 k6 k7 k8 k9 k10 k11 k12 k13 k14 k15 k16 k17 k18 k19 k20 k21 k22 k23 k24 k25 k26 k27 k28 k29 k30 k31 k32 k33 k34 k35 k36 k37 k38 k39 k40 k41 k42 k43 k44 k45 k46 k47 k48 k49 k50 k51 k52 k53 k54 k55 k56 k57 k58 k59 k60 k61 k62 k63 k64 k65 k66 k67 k68 k69 k70 k71 k72 k73 k74 k75
 obtain ⟨W1, hW1⟩ : ∃ W1, ((((((w.alloc (.cells #[.int .u64 (lim a 0), .int .u64 (lim a 1), .int .u64 (lim a 2), .int .u64 (lim a 3)] 24)).alloc (.cells #[.int .u64 (lim b 0), .int .u64 (lim b 1), .int .u64 (lim b 2), .int .u64 (lim b 3)] 24)).alloc (.cells #[.int .u64 (lim c 0), .int .u64 (lim c 1), .int .u64 (lim c 2), .int .u64 (lim c 3)] 24)).alloc (.cells #[.bool f0, .bool f1, .bool f2] 25)).alloc (.cells #[.slice ka l1 kc, .slice la l2 lc] 27)).alloc (.cells #[.slice ra rn rc, .slice sa sn sc] 30)) = W1 := ⟨_, rfl⟩
 rw [hW1] at LA LB LC LF LP LS Q ⊢
 clear hW1
 refine (HK.out _).mono ?_
 rintro e v76 ⟨rfl, q⟩
 have LA := LA.later q
 have LB := LB.later q
 have LC := LC.later q
 have LF := LF.later q
 have LP := LP.later q
 have LS := LS.later q
 have Q := Q.trans (q.mono Q.size)
 clear q
 have k77 := LA.cell 0 _ rfl
 have k78 := LA.cell 1 _ rfl
 have k79 := LA.cell 2 _ rfl
 have k80 := LA.cell 3 _ rfl
 have k81 := LB.cell 0 _ rfl
 have k82 := LB.cell 1 _ rfl
 have k83 := LB.cell 2 _ rfl
 have k84 := LB.cell 3 _ rfl
 have k85 := LC.cell 0 _ rfl
 have k86 := LC.cell 1 _ rfl
 have k87 := LC.cell 2 _ rfl
 have k88 := LC.cell 3 _ rfl
 have k89 := LF.cell 0 _ rfl
 have k90 := LF.cell 1 _ rfl
 have k91 := LF.cell 2 _ rfl
 have k92 := LP.cell 0 _ rfl
 have k93 := LP.cell 1 _ rfl
 have k94 := LS.cell 0 _ rfl
 have k95 := LS.cell 1 _ rfl
 go_wp2_with fail
 clear k77 k78 k79 k80 k81 k82 k83 k84 k85 k86 k87 k88 k89 k90 k91 k92 k93 k94 k95
 refine (P1.out _).mono ?_
 rintro e v96 ⟨rfl, q⟩
 have LA := LA.later q
 have LB := LB.later q
 have LC := LC.later q
 have LF := LF.later q
 have LP := LP.later q
 have LS := LS.later q
 have Q := Q.trans (q.mono Q.size)
 clear q
 have k97 := LA.cell 0 _ rfl
 have k98 := LA.cell 1 _ rfl
 have k99 := LA.cell 2 _ rfl
 have k100 := LA.cell 3 _ rfl
 have k101 := LB.cell 0 _ rfl
 have k102 := LB.cell 1 _ rfl
 have k103 := LB.cell 2 _ rfl
 have k104 := LB.cell 3 _ rfl
 have k105 := LC.cell 0 _ rfl
 have k106 := LC.cell 1 _ rfl
 have k107 := LC.cell 2 _ rfl
 have k108 := LC.cell 3 _ rfl
 have k109 := LF.cell 0 _ rfl
 have k110 := LF.cell 1 _ rfl
 have k111 := LF.cell 2 _ rfl
 have k112 := LP.cell 0 _ rfl
 have k113 := LP.cell 1 _ rfl
 have k114 := LS.cell 0 _ rfl
 have k115 := LS.cell 1 _ rfl
 have LA := LA.alloc (.cells #[.int .i64 n, .int .i64 p1] 3)
 have LB := LB.alloc (.cells #[.int .i64 n, .int .i64 p1] 3)
 have LC := LC.alloc (.cells #[.int .i64 n, .int .i64 p1] 3)
 have LF := LF.alloc (.cells #[.int .i64 n, .int .i64 p1] 3)
 have LP := LP.alloc (.cells #[.int .i64 n, .int .i64 p1] 3)
 have LS := LS.alloc (.cells #[.int .i64 n, .int .i64 p1] 3)
 have LV := Has.new v96 3 #[.int .i64 n, .int .i64 p1]
 have k116 := LA.cell 0 _ rfl
 have k117 := LA.cell 1 _ rfl
 have k118 := LA.cell 2 _ rfl
 have k119 := LA.cell 3 _ rfl
 have k120 := LB.cell 0 _ rfl
 have k121 := LB.cell 1 _ rfl
 have k122 := LB.cell 2 _ rfl
 have k123 := LB.cell 3 _ rfl
 have k124 := LC.cell 0 _ rfl
 have k125 := LC.cell 1 _ rfl
 have k126 := LC.cell 2 _ rfl
 have k127 := LC.cell 3 _ rfl
 have k128 := LF.cell 0 _ rfl
 have k129 := LF.cell 1 _ rfl
 have k130 := LF.cell 2 _ rfl
 have k131 := LP.cell 0 _ rfl
 have k132 := LP.cell 1 _ rfl
 have k133 := LS.cell 0 _ rfl
 have k134 := LS.cell 1 _ rfl
 have k135 := LV.cell 0 _ rfl
 have k136 := LV.cell 1 _ rfl
 have Q := Q.alloc Q.size (.cells #[.int .i64 n, .int .i64 p1] 3)
 go_wp2_with fail
 clear k97 k98 k99 k100 k101 k102 k103 k104 k105 k106 k107 k108 k109 k110 k111 k112 k113 k114 k115 k116 k117 k118 k119 k120 k121 k122 k123 k124 k125 k126 k127 k128 k129 k130 k131 k132 k133 k134 k135 k136
 obtain ⟨W2, hW2⟩ : ∃ W2, (v96.alloc (.cells #[.int .i64 n, .int .i64 p1] 3)) = W2 := ⟨_, rfl⟩
 rw [hW2] at LA LB LC LF LP LS LV Q ⊢
 clear hW2
 generalize v96.heap.size = b2 at *
 have HA := hid LA
 have HB := hid LB
 have HC := hid LC
 have HF := hid LF
 have HP := hid LP
 have HS := hid LS
 have HV := hid LV
 have HQ := hid Q
 clear LA LB LC LF LP LS LV Q
 go_loopw [47] (fun jv wr => ∃ j : Nat, j ≤ 2 ∧ jv = .int .i64 (j : Int) ∧ Below W2.heap.size W2 wr) (fun jv _ => 2 - (intOf jv).toNat)
 case atStart => exact ⟨0, by omega, rfl, Below.refl _ _⟩
 case round =>
  obtain ⟨j, hj2, rfl, hq⟩ := hrel
  have HJQ := hid hq
  clear hq
  by_cases hj : j < 2
  ·have hjI : (j : Int) < 2 := by omega
   have hj0 : (0 : Int) ≤ (j : Int) := by omega
   have HJ := hid hj
   obtain ⟨z, hz, hcl⟩ : ∃ z : Int, I64 z ∧ ∀ X, Below wr.heap.size wr X → X.cell? ⟨b2, j, none⟩ = some (.int .i64 z) := by
    have h : j = 0 ∨ j = 1 := by omega
    rcases h with rfl | rfl
    ·exact ⟨_, HN.out.1, fun X hX => ((HV.out.later HJQ.out).later hX).cell 0 _ rfl⟩
    ·exact ⟨_, (by have := HG.out; unfold I64; omega), fun X hX => ((HV.out.later HJQ.out).later hX).cell 1 _ rfl⟩
   have C1 := copy_retG z
   have D1 := rcopy_retG z
   obtain ⟨c1, hc1⟩ : ∃ c : Int, 3 * wordsN z = c := ⟨_, rfl⟩
   rw [hc1] at C1 D1
   clear hc1
   have HC1 := hid C1
   have HD1 := hid D1
   clear C1 D1
   have C2 := hash_retG z
   have D2 := rhash_retG z
   obtain ⟨c2, hc2⟩ : ∃ c : Int, 6 * wordsN z = c := ⟨_, rfl⟩
   rw [hc2] at C2 D2
   clear hc2
   have HC2 := hid C2
   have HD2 := hid D2
   clear C2 D2
   have C3 := log_retG z
   have D3 := rlog_retG z
   obtain ⟨c3, hc3⟩ : ∃ c : Int, 8 * manyN z = c := ⟨_, rfl⟩
   rw [hc3] at C3 D3
   clear hc3
   have HC3 := hid C3
   have HD3 := hid D3
   clear C3 D3
   have C4 := init_ret z f0
   have D4 := rinit_ret z f0
   obtain ⟨c4, hc4⟩ : ∃ c : Int, initN z f0 = c := ⟨_, rfl⟩
   rw [hc4] at C4 D4
   clear hc4
   have HC4 := hid C4
   have HD4 := hid D4
   clear C4 D4
   have C5 := back_ret z rf hz
   have D5 := rback_ret z rf hz
   obtain ⟨c5, hc5⟩ : ∃ c : Int, backN z rf = c := ⟨_, rfl⟩
   rw [hc5] at C5 D5
   clear hc5
   have HC5 := hid C5
   have HD5 := hid D5
   clear C5 D5
   have q0 : ∀ x : Ext wr, x.w.cell? ⟨w.heap.size + 1 + 1 + 1, 0, none⟩ = some (.bool f0) := fun x => ((HF.out.later HJQ.out).later x.below).cell 0 _ rfl
   have k := hcl wr (Below.refl _ _)
   clear hcl hj hj2
   go_wp2_with fail
   clear k
   try simp only [List.append]
   refine wp_region_quick (C := Grows wr) (by kernel_rfl) (by kernel_rfl) (by kernel_rfl) (grows_refl wr) ?_
   repeat (go_big_quiet_step (first | (with_reducible exact Ret.at HC1.out _) | (with_reducible exact Ret.at HD1.out _) | (with_reducible exact Ret.at HC2.out _) | (with_reducible exact Ret.at HD2.out _) | (with_reducible exact Ret.at HC3.out _) | (with_reducible exact Ret.at HD3.out _) | (with_reducible exact Ret.at HC4.out _) | (with_reducible exact Ret.at HD4.out _) | (with_reducible exact Ret.at HC5.out _) | (with_reducible exact Ret.at HD5.out _)))
   refine wpQuiet_nil ?_
   rintro _ ⟨x, rfl⟩
   clear q0
   go_wp2_with fail
   go_roundw
   case rel => exact ⟨j + 1, by have := HJ.out; omega, by simp, HJQ.out.trans (x.below.mono HJQ.out.size)⟩
   case measure => have := HJ.out; simp [intOf]; omega
  ·obtain rfl : j = 2 := by omega
   clear hj hj2
   obtain ⟨Y1, hY1⟩ : ∃ Y, Y = wr := ⟨_, rfl⟩
   subst hY1
   have HY1 := hid HJQ.out
   clear HJQ
   have LA := HA.out.later HY1.out
   have LB := HB.out.later HY1.out
   have LC := HC.out.later HY1.out
   have Q := Below.refl Y1.heap.size Y1
   have hys := HY1.out.size
   have k101 := LA.cell 0 _ rfl
   have k102 := LA.cell 1 _ rfl
   have k103 := LA.cell 2 _ rfl
   have k104 := LA.cell 3 _ rfl
   have k105 := LB.cell 0 _ rfl
   have k106 := LB.cell 1 _ rfl
   have k107 := LB.cell 2 _ rfl
   have k108 := LB.cell 3 _ rfl
   have k109 := LC.cell 0 _ rfl
   have k110 := LC.cell 1 _ rfl
   have k111 := LC.cell 2 _ rfl
   have k112 := LC.cell 3 _ rfl
   have LA := LA.alloc (.cells #[.int .u64 (lim a 0), .int .u64 (lim a 1), .int .u64 (lim a 2), .int .u64 (lim a 3), .int .u64 (lim b 0), .int .u64 (lim b 1), .int .u64 (lim b 2), .int .u64 (lim b 3), .int .u64 (lim c 0), .int .u64 (lim c 1), .int .u64 (lim c 2), .int .u64 (lim c 3), .int .u64 (lim a 0), .int .u64 (lim a 1), .int .u64 (lim a 2), .int .u64 (lim a 3), .int .u64 (lim a 0), .int .u64 (lim a 1), .int .u64 (lim a 2), .int .u64 (lim a 3), .int .u64 (lim c 0), .int .u64 (lim c 1), .int .u64 (lim c 2), .int .u64 (lim c 3), .int .u64 (lim a 0), .int .u64 (lim a 1), .int .u64 (lim a 2), .int .u64 (lim a 3), .int .u64 (lim b 0), .int .u64 (lim b 1), .int .u64 (lim b 2), .int .u64 (lim b 3), .int .u64 (lim a 0), .int .u64 (lim a 1), .int .u64 (lim a 2), .int .u64 (lim a 3), .int .u64 0, .int .u64 0, .int .u64 0, .int .u64 0, .int .u64 (lim b 0), .int .u64 (lim b 1), .int .u64 (lim b 2), .int .u64 (lim b 3), .int .u64 0, .int .u64 0, .int .u64 0, .int .u64 0, .int .u64 (lim a 0), .int .u64 (lim a 1), .int .u64 (lim a 2), .int .u64 (lim a 3), .int .u64 0, .int .u64 0, .int .u64 0, .int .u64 0, .int .u64 (lim a 0), .int .u64 (lim a 1), .int .u64 (lim a 2), .int .u64 (lim a 3), .int .u64 (lim a 0), .int .u64 (lim a 1), .int .u64 (lim a 2), .int .u64 (lim a 3), .int .u64 (lim b 0), .int .u64 (lim b 1), .int .u64 (lim b 2), .int .u64 (lim b 3), .int .u64 0, .int .u64 0, .int .u64 0, .int .u64 0, .int .u64 (lim a 0), .int .u64 (lim a 1), .int .u64 (lim a 2), .int .u64 (lim a 3), .int .u64 (lim b 0), .int .u64 (lim b 1), .int .u64 (lim b 2), .int .u64 (lim b 3), .int .u64 (lim b 0), .int .u64 (lim b 1), .int .u64 (lim b 2), .int .u64 (lim b 3), .int .u64 ((lim a 0).tmod 3), .int .u64 0, .int .u64 0, .int .u64 0, .int .u64 ((lim b 0).tmod 3), .int .u64 0, .int .u64 0, .int .u64 0, .int .u64 ((lim c 0).tmod 3), .int .u64 0, .int .u64 0, .int .u64 0] 36)
   have LB := LB.alloc (.cells #[.int .u64 (lim a 0), .int .u64 (lim a 1), .int .u64 (lim a 2), .int .u64 (lim a 3), .int .u64 (lim b 0), .int .u64 (lim b 1), .int .u64 (lim b 2), .int .u64 (lim b 3), .int .u64 (lim c 0), .int .u64 (lim c 1), .int .u64 (lim c 2), .int .u64 (lim c 3), .int .u64 (lim a 0), .int .u64 (lim a 1), .int .u64 (lim a 2), .int .u64 (lim a 3), .int .u64 (lim a 0), .int .u64 (lim a 1), .int .u64 (lim a 2), .int .u64 (lim a 3), .int .u64 (lim c 0), .int .u64 (lim c 1), .int .u64 (lim c 2), .int .u64 (lim c 3), .int .u64 (lim a 0), .int .u64 (lim a 1), .int .u64 (lim a 2), .int .u64 (lim a 3), .int .u64 (lim b 0), .int .u64 (lim b 1), .int .u64 (lim b 2), .int .u64 (lim b 3), .int .u64 (lim a 0), .int .u64 (lim a 1), .int .u64 (lim a 2), .int .u64 (lim a 3), .int .u64 0, .int .u64 0, .int .u64 0, .int .u64 0, .int .u64 (lim b 0), .int .u64 (lim b 1), .int .u64 (lim b 2), .int .u64 (lim b 3), .int .u64 0, .int .u64 0, .int .u64 0, .int .u64 0, .int .u64 (lim a 0), .int .u64 (lim a 1), .int .u64 (lim a 2), .int .u64 (lim a 3), .int .u64 0, .int .u64 0, .int .u64 0, .int .u64 0, .int .u64 (lim a 0), .int .u64 (lim a 1), .int .u64 (lim a 2), .int .u64 (lim a 3), .int .u64 (lim a 0), .int .u64 (lim a 1), .int .u64 (lim a 2), .int .u64 (lim a 3), .int .u64 (lim b 0), .int .u64 (lim b 1), .int .u64 (lim b 2), .int .u64 (lim b 3), .int .u64 0, .int .u64 0, .int .u64 0, .int .u64 0, .int .u64 (lim a 0), .int .u64 (lim a 1), .int .u64 (lim a 2), .int .u64 (lim a 3), .int .u64 (lim b 0), .int .u64 (lim b 1), .int .u64 (lim b 2), .int .u64 (lim b 3), .int .u64 (lim b 0), .int .u64 (lim b 1), .int .u64 (lim b 2), .int .u64 (lim b 3), .int .u64 ((lim a 0).tmod 3), .int .u64 0, .int .u64 0, .int .u64 0, .int .u64 ((lim b 0).tmod 3), .int .u64 0, .int .u64 0, .int .u64 0, .int .u64 ((lim c 0).tmod 3), .int .u64 0, .int .u64 0, .int .u64 0] 36)
   have LC := LC.alloc (.cells #[.int .u64 (lim a 0), .int .u64 (lim a 1), .int .u64 (lim a 2), .int .u64 (lim a 3), .int .u64 (lim b 0), .int .u64 (lim b 1), .int .u64 (lim b 2), .int .u64 (lim b 3), .int .u64 (lim c 0), .int .u64 (lim c 1), .int .u64 (lim c 2), .int .u64 (lim c 3), .int .u64 (lim a 0), .int .u64 (lim a 1), .int .u64 (lim a 2), .int .u64 (lim a 3), .int .u64 (lim a 0), .int .u64 (lim a 1), .int .u64 (lim a 2), .int .u64 (lim a 3), .int .u64 (lim c 0), .int .u64 (lim c 1), .int .u64 (lim c 2), .int .u64 (lim c 3), .int .u64 (lim a 0), .int .u64 (lim a 1), .int .u64 (lim a 2), .int .u64 (lim a 3), .int .u64 (lim b 0), .int .u64 (lim b 1), .int .u64 (lim b 2), .int .u64 (lim b 3), .int .u64 (lim a 0), .int .u64 (lim a 1), .int .u64 (lim a 2), .int .u64 (lim a 3), .int .u64 0, .int .u64 0, .int .u64 0, .int .u64 0, .int .u64 (lim b 0), .int .u64 (lim b 1), .int .u64 (lim b 2), .int .u64 (lim b 3), .int .u64 0, .int .u64 0, .int .u64 0, .int .u64 0, .int .u64 (lim a 0), .int .u64 (lim a 1), .int .u64 (lim a 2), .int .u64 (lim a 3), .int .u64 0, .int .u64 0, .int .u64 0, .int .u64 0, .int .u64 (lim a 0), .int .u64 (lim a 1), .int .u64 (lim a 2), .int .u64 (lim a 3), .int .u64 (lim a 0), .int .u64 (lim a 1), .int .u64 (lim a 2), .int .u64 (lim a 3), .int .u64 (lim b 0), .int .u64 (lim b 1), .int .u64 (lim b 2), .int .u64 (lim b 3), .int .u64 0, .int .u64 0, .int .u64 0, .int .u64 0, .int .u64 (lim a 0), .int .u64 (lim a 1), .int .u64 (lim a 2), .int .u64 (lim a 3), .int .u64 (lim b 0), .int .u64 (lim b 1), .int .u64 (lim b 2), .int .u64 (lim b 3), .int .u64 (lim b 0), .int .u64 (lim b 1), .int .u64 (lim b 2), .int .u64 (lim b 3), .int .u64 ((lim a 0).tmod 3), .int .u64 0, .int .u64 0, .int .u64 0, .int .u64 ((lim b 0).tmod 3), .int .u64 0, .int .u64 0, .int .u64 0, .int .u64 ((lim c 0).tmod 3), .int .u64 0, .int .u64 0, .int .u64 0] 36)
   have LX := Has.new Y1 36 #[.int .u64 (lim a 0), .int .u64 (lim a 1), .int .u64 (lim a 2), .int .u64 (lim a 3), .int .u64 (lim b 0), .int .u64 (lim b 1), .int .u64 (lim b 2), .int .u64 (lim b 3), .int .u64 (lim c 0), .int .u64 (lim c 1), .int .u64 (lim c 2), .int .u64 (lim c 3), .int .u64 (lim a 0), .int .u64 (lim a 1), .int .u64 (lim a 2), .int .u64 (lim a 3), .int .u64 (lim a 0), .int .u64 (lim a 1), .int .u64 (lim a 2), .int .u64 (lim a 3), .int .u64 (lim c 0), .int .u64 (lim c 1), .int .u64 (lim c 2), .int .u64 (lim c 3), .int .u64 (lim a 0), .int .u64 (lim a 1), .int .u64 (lim a 2), .int .u64 (lim a 3), .int .u64 (lim b 0), .int .u64 (lim b 1), .int .u64 (lim b 2), .int .u64 (lim b 3), .int .u64 (lim a 0), .int .u64 (lim a 1), .int .u64 (lim a 2), .int .u64 (lim a 3), .int .u64 0, .int .u64 0, .int .u64 0, .int .u64 0, .int .u64 (lim b 0), .int .u64 (lim b 1), .int .u64 (lim b 2), .int .u64 (lim b 3), .int .u64 0, .int .u64 0, .int .u64 0, .int .u64 0, .int .u64 (lim a 0), .int .u64 (lim a 1), .int .u64 (lim a 2), .int .u64 (lim a 3), .int .u64 0, .int .u64 0, .int .u64 0, .int .u64 0, .int .u64 (lim a 0), .int .u64 (lim a 1), .int .u64 (lim a 2), .int .u64 (lim a 3), .int .u64 (lim a 0), .int .u64 (lim a 1), .int .u64 (lim a 2), .int .u64 (lim a 3), .int .u64 (lim b 0), .int .u64 (lim b 1), .int .u64 (lim b 2), .int .u64 (lim b 3), .int .u64 0, .int .u64 0, .int .u64 0, .int .u64 0, .int .u64 (lim a 0), .int .u64 (lim a 1), .int .u64 (lim a 2), .int .u64 (lim a 3), .int .u64 (lim b 0), .int .u64 (lim b 1), .int .u64 (lim b 2), .int .u64 (lim b 3), .int .u64 (lim b 0), .int .u64 (lim b 1), .int .u64 (lim b 2), .int .u64 (lim b 3), .int .u64 ((lim a 0).tmod 3), .int .u64 0, .int .u64 0, .int .u64 0, .int .u64 ((lim b 0).tmod 3), .int .u64 0, .int .u64 0, .int .u64 0, .int .u64 ((lim c 0).tmod 3), .int .u64 0, .int .u64 0, .int .u64 0]
   have k113 := LA.cell 0 _ rfl
   have k114 := LA.cell 1 _ rfl
   have k115 := LA.cell 2 _ rfl
   have k116 := LA.cell 3 _ rfl
   have k117 := LB.cell 0 _ rfl
   have k118 := LB.cell 1 _ rfl
   have k119 := LB.cell 2 _ rfl
   have k120 := LB.cell 3 _ rfl
   have k121 := LC.cell 0 _ rfl
   have k122 := LC.cell 1 _ rfl
   have k123 := LC.cell 2 _ rfl
   have k124 := LC.cell 3 _ rfl
   have k125 := LX.cell 0 _ rfl
   have k126 := LX.cell 1 _ rfl
   have k127 := LX.cell 2 _ rfl
   have k128 := LX.cell 3 _ rfl
   have k129 := LX.cell 4 _ rfl
   have k130 := LX.cell 5 _ rfl
   have k131 := LX.cell 6 _ rfl
   have k132 := LX.cell 7 _ rfl
   have k133 := LX.cell 8 _ rfl
   have k134 := LX.cell 9 _ rfl
   have k135 := LX.cell 10 _ rfl
   have k136 := LX.cell 11 _ rfl
   have k137 := LX.cell 12 _ rfl
   have k138 := LX.cell 13 _ rfl
   have k139 := LX.cell 14 _ rfl
   have k140 := LX.cell 15 _ rfl
   have k141 := LX.cell 16 _ rfl
   have k142 := LX.cell 17 _ rfl
   have k143 := LX.cell 18 _ rfl
   have k144 := LX.cell 19 _ rfl
   have k145 := LX.cell 20 _ rfl
   have k146 := LX.cell 21 _ rfl
   have k147 := LX.cell 22 _ rfl
   have k148 := LX.cell 23 _ rfl
   have k149 := LX.cell 24 _ rfl
   have k150 := LX.cell 25 _ rfl
   have k151 := LX.cell 26 _ rfl
   have k152 := LX.cell 27 _ rfl
   have k153 := LX.cell 28 _ rfl
   have k154 := LX.cell 29 _ rfl
   have k155 := LX.cell 30 _ rfl
   have k156 := LX.cell 31 _ rfl
   have k157 := LX.cell 32 _ rfl
   have k158 := LX.cell 33 _ rfl
   have k159 := LX.cell 34 _ rfl
   have k160 := LX.cell 35 _ rfl
   have k161 := LX.cell 36 _ rfl
   have k162 := LX.cell 37 _ rfl
   have k163 := LX.cell 38 _ rfl
   have k164 := LX.cell 39 _ rfl
   have k165 := LX.cell 40 _ rfl
   have k166 := LX.cell 41 _ rfl
   have k167 := LX.cell 42 _ rfl
   have k168 := LX.cell 43 _ rfl
   have k169 := LX.cell 44 _ rfl
   have k170 := LX.cell 45 _ rfl
   have k171 := LX.cell 46 _ rfl
   have k172 := LX.cell 47 _ rfl
   have k173 := LX.cell 48 _ rfl
   have k174 := LX.cell 49 _ rfl
   have k175 := LX.cell 50 _ rfl
   have k176 := LX.cell 51 _ rfl
   have k177 := LX.cell 52 _ rfl
   have k178 := LX.cell 53 _ rfl
   have k179 := LX.cell 54 _ rfl
   have k180 := LX.cell 55 _ rfl
   have k181 := LX.cell 56 _ rfl
   have k182 := LX.cell 57 _ rfl
   have k183 := LX.cell 58 _ rfl
   have k184 := LX.cell 59 _ rfl
   have k185 := LX.cell 60 _ rfl
   have k186 := LX.cell 61 _ rfl
   have k187 := LX.cell 62 _ rfl
   have k188 := LX.cell 63 _ rfl
   have k189 := LX.cell 64 _ rfl
   have k190 := LX.cell 65 _ rfl
   have k191 := LX.cell 66 _ rfl
   have k192 := LX.cell 67 _ rfl
   have k193 := LX.cell 68 _ rfl
   have k194 := LX.cell 69 _ rfl
   have k195 := LX.cell 70 _ rfl
   have k196 := LX.cell 71 _ rfl
   have k197 := LX.cell 72 _ rfl
   have k198 := LX.cell 73 _ rfl
   have k199 := LX.cell 74 _ rfl
   have k200 := LX.cell 75 _ rfl
   have k201 := LX.cell 76 _ rfl
   have k202 := LX.cell 77 _ rfl
   have k203 := LX.cell 78 _ rfl
   have k204 := LX.cell 79 _ rfl
   have k205 := LX.cell 80 _ rfl
   have k206 := LX.cell 81 _ rfl
   have k207 := LX.cell 82 _ rfl
   have k208 := LX.cell 83 _ rfl
   have k209 := LX.cell 84 _ rfl
   have k210 := LX.cell 85 _ rfl
   have k211 := LX.cell 86 _ rfl
   have k212 := LX.cell 87 _ rfl
   have k213 := LX.cell 88 _ rfl
   have k214 := LX.cell 89 _ rfl
   have k215 := LX.cell 90 _ rfl
   have k216 := LX.cell 91 _ rfl
   have k217 := LX.cell 92 _ rfl
   have k218 := LX.cell 93 _ rfl
   have k219 := LX.cell 94 _ rfl
   have k220 := LX.cell 95 _ rfl
   have Q := Q.alloc Q.size (.cells #[.int .u64 (lim a 0), .int .u64 (lim a 1), .int .u64 (lim a 2), .int .u64 (lim a 3), .int .u64 (lim b 0), .int .u64 (lim b 1), .int .u64 (lim b 2), .int .u64 (lim b 3), .int .u64 (lim c 0), .int .u64 (lim c 1), .int .u64 (lim c 2), .int .u64 (lim c 3), .int .u64 (lim a 0), .int .u64 (lim a 1), .int .u64 (lim a 2), .int .u64 (lim a 3), .int .u64 (lim a 0), .int .u64 (lim a 1), .int .u64 (lim a 2), .int .u64 (lim a 3), .int .u64 (lim c 0), .int .u64 (lim c 1), .int .u64 (lim c 2), .int .u64 (lim c 3), .int .u64 (lim a 0), .int .u64 (lim a 1), .int .u64 (lim a 2), .int .u64 (lim a 3), .int .u64 (lim b 0), .int .u64 (lim b 1), .int .u64 (lim b 2), .int .u64 (lim b 3), .int .u64 (lim a 0), .int .u64 (lim a 1), .int .u64 (lim a 2), .int .u64 (lim a 3), .int .u64 0, .int .u64 0, .int .u64 0, .int .u64 0, .int .u64 (lim b 0), .int .u64 (lim b 1), .int .u64 (lim b 2), .int .u64 (lim b 3), .int .u64 0, .int .u64 0, .int .u64 0, .int .u64 0, .int .u64 (lim a 0), .int .u64 (lim a 1), .int .u64 (lim a 2), .int .u64 (lim a 3), .int .u64 0, .int .u64 0, .int .u64 0, .int .u64 0, .int .u64 (lim a 0), .int .u64 (lim a 1), .int .u64 (lim a 2), .int .u64 (lim a 3), .int .u64 (lim a 0), .int .u64 (lim a 1), .int .u64 (lim a 2), .int .u64 (lim a 3), .int .u64 (lim b 0), .int .u64 (lim b 1), .int .u64 (lim b 2), .int .u64 (lim b 3), .int .u64 0, .int .u64 0, .int .u64 0, .int .u64 0, .int .u64 (lim a 0), .int .u64 (lim a 1), .int .u64 (lim a 2), .int .u64 (lim a 3), .int .u64 (lim b 0), .int .u64 (lim b 1), .int .u64 (lim b 2), .int .u64 (lim b 3), .int .u64 (lim b 0), .int .u64 (lim b 1), .int .u64 (lim b 2), .int .u64 (lim b 3), .int .u64 ((lim a 0).tmod 3), .int .u64 0, .int .u64 0, .int .u64 0, .int .u64 ((lim b 0).tmod 3), .int .u64 0, .int .u64 0, .int .u64 0, .int .u64 ((lim c 0).tmod 3), .int .u64 0, .int .u64 0, .int .u64 0] 36)
   go_wp2_with fail
   clear k101 k102 k103 k104 k105 k106 k107 k108 k109 k110 k111 k112 k113 k114 k115 k116 k117 k118 k119 k120 k121 k122 k123 k124 k125 k126 k127 k128 k129 k130 k131 k132 k133 k134 k135 k136 k137 k138 k139 k140 k141 k142 k143 k144 k145 k146 k147 k148 k149 k150 k151 k152 k153 k154 k155 k156 k157 k158 k159 k160 k161 k162 k163 k164 k165 k166 k167 k168 k169 k170 k171 k172 k173 k174 k175 k176 k177 k178 k179 k180 k181 k182 k183 k184 k185 k186 k187 k188 k189 k190 k191 k192 k193 k194 k195 k196 k197 k198 k199 k200 k201 k202 k203 k204 k205 k206 k207 k208 k209 k210 k211 k212 k213 k214 k215 k216 k217 k218 k219 k220
   obtain ⟨W101, hW101⟩ : ∃ W101, (Y1.alloc (.cells #[.int .u64 (lim a 0), .int .u64 (lim a 1), .int .u64 (lim a 2), .int .u64 (lim a 3), .int .u64 (lim b 0), .int .u64 (lim b 1), .int .u64 (lim b 2), .int .u64 (lim b 3), .int .u64 (lim c 0), .int .u64 (lim c 1), .int .u64 (lim c 2), .int .u64 (lim c 3), .int .u64 (lim a 0), .int .u64 (lim a 1), .int .u64 (lim a 2), .int .u64 (lim a 3), .int .u64 (lim a 0), .int .u64 (lim a 1), .int .u64 (lim a 2), .int .u64 (lim a 3), .int .u64 (lim c 0), .int .u64 (lim c 1), .int .u64 (lim c 2), .int .u64 (lim c 3), .int .u64 (lim a 0), .int .u64 (lim a 1), .int .u64 (lim a 2), .int .u64 (lim a 3), .int .u64 (lim b 0), .int .u64 (lim b 1), .int .u64 (lim b 2), .int .u64 (lim b 3), .int .u64 (lim a 0), .int .u64 (lim a 1), .int .u64 (lim a 2), .int .u64 (lim a 3), .int .u64 0, .int .u64 0, .int .u64 0, .int .u64 0, .int .u64 (lim b 0), .int .u64 (lim b 1), .int .u64 (lim b 2), .int .u64 (lim b 3), .int .u64 0, .int .u64 0, .int .u64 0, .int .u64 0, .int .u64 (lim a 0), .int .u64 (lim a 1), .int .u64 (lim a 2), .int .u64 (lim a 3), .int .u64 0, .int .u64 0, .int .u64 0, .int .u64 0, .int .u64 (lim a 0), .int .u64 (lim a 1), .int .u64 (lim a 2), .int .u64 (lim a 3), .int .u64 (lim a 0), .int .u64 (lim a 1), .int .u64 (lim a 2), .int .u64 (lim a 3), .int .u64 (lim b 0), .int .u64 (lim b 1), .int .u64 (lim b 2), .int .u64 (lim b 3), .int .u64 0, .int .u64 0, .int .u64 0, .int .u64 0, .int .u64 (lim a 0), .int .u64 (lim a 1), .int .u64 (lim a 2), .int .u64 (lim a 3), .int .u64 (lim b 0), .int .u64 (lim b 1), .int .u64 (lim b 2), .int .u64 (lim b 3), .int .u64 (lim b 0), .int .u64 (lim b 1), .int .u64 (lim b 2), .int .u64 (lim b 3), .int .u64 ((lim a 0).tmod 3), .int .u64 0, .int .u64 0, .int .u64 0, .int .u64 ((lim b 0).tmod 3), .int .u64 0, .int .u64 0, .int .u64 0, .int .u64 ((lim c 0).tmod 3), .int .u64 0, .int .u64 0, .int .u64 0] 36)) = W101 := ⟨_, rfl⟩
   rw [hW101] at LA LB LC LX Q ⊢
   clear hW101
   generalize Y1.heap.size = b101 at *
   have HX := hid LX
   have HY2 := hid (HY1.out.trans (Q.mono hys))
   clear LA LB LC LX Q
   have HTR := hid (show ∀ j, j < 8 → ∃ o c v : Nat, W256 o ∧ W256 c ∧ W256 v ∧ ∀ X, Below W101.heap.size W101 X → (loadVar 36 ⟨b101, j * 12, none⟩).run Tryd.prog X = .ok (.agg (tripL o c v).toArray) X from fun j hj => by
    have w256_0 : W256 0 := by unfold W256; decide
    have hj8 : j = 0 ∨ j = 1 ∨ j = 2 ∨ j = 3 ∨ j = 4 ∨ j = 5 ∨ j = 6 ∨ j = 7 := by omega
    rcases hj8 with rfl | rfl | rfl | rfl | rfl | rfl | rfl | rfl
    ·exact ⟨a, b, c, HW.out.1, HW.out.2.1, HW.out.2.2, fun X hX => trip_load (HX.out.later hX) 0 rfl⟩
    ·exact ⟨a, a, c, HW.out.1, HW.out.1, HW.out.2.2, fun X hX => trip_load (HX.out.later hX) 1 rfl⟩
    ·exact ⟨a, b, a, HW.out.1, HW.out.2.1, HW.out.1, fun X hX => trip_load (HX.out.later hX) 2 rfl⟩
    ·exact ⟨0, b, 0, w256_0, HW.out.2.1, w256_0, fun X hX => trip_load (HX.out.later hX) 3 rfl⟩
    ·exact ⟨a, 0, a, HW.out.1, w256_0, HW.out.1, fun X hX => trip_load (HX.out.later hX) 4 rfl⟩
    ·exact ⟨a, b, 0, HW.out.1, HW.out.2.1, w256_0, fun X hX => trip_load (HX.out.later hX) 5 rfl⟩
    ·exact ⟨a, b, b, HW.out.1, HW.out.2.1, HW.out.2.1, fun X hX => trip_load (HX.out.later hX) 6 rfl⟩
    ·obtain ⟨o0, o1, o2, o3, oo⟩ := lims_small (n := ((lim a 0).tmod 3).toNat) (Int.tmod_nonneg 3 (lim_lo a 0)) (Int.tmod_lt_of_pos _ (by decide)) rfl
     obtain ⟨c0, c1, c2, c3, cc⟩ := lims_small (n := ((lim b 0).tmod 3).toNat) (Int.tmod_nonneg 3 (lim_lo b 0)) (Int.tmod_lt_of_pos _ (by decide)) rfl
     obtain ⟨v0, v1, v2, v3, vv⟩ := lims_small (n := ((lim c 0).tmod 3).toNat) (Int.tmod_nonneg 3 (lim_lo c 0)) (Int.tmod_lt_of_pos _ (by decide)) rfl
     exact ⟨_, _, _, oo, cc, vv, fun X hX => trip_load (HX.out.later hX) 7 (by unfold tripL; rw [o0, o1, o2, o3, c0, c1, c2, c3, v0, v1, v2, v3]; rfl)⟩)
   go_loopw [134] (fun jv wr => ∃ j : Nat, j ≤ 8 ∧ jv = .int .i64 (j : Int) ∧ Below W101.heap.size W101 wr) (fun jv _ => 8 - (intOf jv).toNat)
   case atStart => exact ⟨0, by omega, rfl, Below.refl _ _⟩
   case round =>
    obtain ⟨j, hj2, rfl, hq⟩ := hrel
    have HJQ := hid hq
    clear hq
    by_cases hj : j < 8
    ·have hjI : (j : Int) < 8 := by omega
     have hj0 : (0 : Int) ≤ (j : Int) := by omega
     have HJ := hid hj
     obtain ⟨o, c', v, ho, hc, hv, hl⟩ := HTR.out j hj
     have HL := hid (show (loadVar 36 ⟨b101, j * 12, none⟩).run Tryd.prog wr = .ok (.agg #[.int .u64 (lim o 0), .int .u64 (lim o 1), .int .u64 (lim o 2), .int .u64 (lim o 3), .int .u64 (lim c' 0), .int .u64 (lim c' 1), .int .u64 (lim c' 2), .int .u64 (lim c' 3), .int .u64 (lim v 0), .int .u64 (lim v 1), .int .u64 (lim v 2), .int .u64 (lim v 3)]) wr from hl wr HJQ.out)
     have S1 := store_ret o c' v ho hc hv f0
     have S2 := rstore_ret o c' v ho hc hv f0
     unfold storeV wv at S1 S2
     obtain ⟨y1, hy1⟩ : ∃ y : Int, costN o c' v f0 = y := ⟨_, rfl⟩
     obtain ⟨y2, hy2⟩ : ∃ y : Int, refundedN o c' v = y := ⟨_, rfl⟩
     rw [hy1, hy2] at S1 S2
     have HS1 := hid S1
     have HS2 := hid S2
     have LF := HF.out.later (HY2.out.trans (HJQ.out.mono HY2.out.size))
     clear hj hj2 hl S1 S2 hy1 hy2 ho hc hv
     obtain ⟨V1, hV1, Z0, qz⟩ := newBox wr 36 #[.int .u64 0, .int .u64 0, .int .u64 0, .int .u64 0, .int .u64 0, .int .u64 0, .int .u64 0, .int .u64 0, .int .u64 0, .int .u64 0, .int .u64 0, .int .u64 0]
     have hi5 : (Tryd.prog.info? 36).map (·.size) = some (#[.int .u64 (lim o 0), .int .u64 (lim o 1), .int .u64 (lim o 2), .int .u64 (lim o 3), .int .u64 (lim c' 0), .int .u64 (lim c' 1), .int .u64 (lim c' 2), .int .u64 (lim c' 3), .int .u64 (lim v 0), .int .u64 (lim v 1), .int .u64 (lim v 2), .int .u64 (lim v 3)] : Array Value).size := by kernel_rfl
     have ho5 : (#[.int .u64 0, .int .u64 0, .int .u64 0, .int .u64 0, .int .u64 0, .int .u64 0, .int .u64 0, .int .u64 0, .int .u64 0, .int .u64 0, .int .u64 0, .int .u64 0] : Array Value).size = (#[.int .u64 (lim o 0), .int .u64 (lim o 1), .int .u64 (lim o 2), .int .u64 (lim o 3), .int .u64 (lim c' 0), .int .u64 (lim c' 1), .int .u64 (lim c' 2), .int .u64 (lim c' 3), .int .u64 (lim v 0), .int .u64 (lim v 1), .int .u64 (lim v 2), .int .u64 (lim v 3)] : Array Value).size := rfl
     have ha5 : (#[.int .u64 (lim o 0), .int .u64 (lim o 1), .int .u64 (lim o 2), .int .u64 (lim o 3), .int .u64 (lim c' 0), .int .u64 (lim c' 1), .int .u64 (lim c' 2), .int .u64 (lim c' 3), .int .u64 (lim v 0), .int .u64 (lim v 1), .int .u64 (lim v 2), .int .u64 (lim v 3)] : Array Value).all (·.oneCell') = true := by simp [Value.oneCell']
     have Q := below_rowG qz (g := wr.heap.size) (Nat.le_refl _) #[.int .u64 (lim o 0), .int .u64 (lim o 1), .int .u64 (lim o 2), .int .u64 (lim o 3), .int .u64 (lim c' 0), .int .u64 (lim c' 1), .int .u64 (lim c' 2), .int .u64 (lim c' 3), .int .u64 (lim v 0), .int .u64 (lim v 1), .int .u64 (lim v 2), .int .u64 (lim v 3)]
     have LT : Has (V1.setRow wr.heap.size #[.int .u64 (lim o 0), .int .u64 (lim o 1), .int .u64 (lim o 2), .int .u64 (lim o 3), .int .u64 (lim c' 0), .int .u64 (lim c' 1), .int .u64 (lim c' 2), .int .u64 (lim c' 3), .int .u64 (lim v 0), .int .u64 (lim v 1), .int .u64 (lim v 2), .int .u64 (lim v 3)]) wr.heap.size 36 #[.int .u64 (lim o 0), .int .u64 (lim o 1), .int .u64 (lim o 2), .int .u64 (lim o 3), .int .u64 (lim c' 0), .int .u64 (lim c' 1), .int .u64 (lim c' 2), .int .u64 (lim c' 3), .int .u64 (lim v 0), .int .u64 (lim v 1), .int .u64 (lim v 2), .int .u64 (lim v 3)] := setRow_heap _ _ _ _ _ _ Z0
     obtain ⟨V2, hV2⟩ : ∃ V2, V1.setRow wr.heap.size #[.int .u64 (lim o 0), .int .u64 (lim o 1), .int .u64 (lim o 2), .int .u64 (lim o 3), .int .u64 (lim c' 0), .int .u64 (lim c' 1), .int .u64 (lim c' 2), .int .u64 (lim c' 3), .int .u64 (lim v 0), .int .u64 (lim v 1), .int .u64 (lim v 2), .int .u64 (lim v 3)] = V2 := ⟨_, rfl⟩
     rw [hV2] at Q
     have LT : Has V2 wr.heap.size 36 #[.int .u64 (lim o 0), .int .u64 (lim o 1), .int .u64 (lim o 2), .int .u64 (lim o 3), .int .u64 (lim c' 0), .int .u64 (lim c' 1), .int .u64 (lim c' 2), .int .u64 (lim c' 3), .int .u64 (lim v 0), .int .u64 (lim v 1), .int .u64 (lim v 2), .int .u64 (lim v 3)] := hV2 ▸ LT
     have LF := LF.later Q
     clear qz
     have hws := HJQ.out.size
     have k201 := LF.cell 0 _ rfl
     have k202 := LF.cell 1 _ rfl
     have k203 := LF.cell 2 _ rfl
     have k204 := LT.cell 0 _ rfl
     have k205 := LT.cell 1 _ rfl
     have k206 := LT.cell 2 _ rfl
     have k207 := LT.cell 3 _ rfl
     have k208 := LT.cell 4 _ rfl
     have k209 := LT.cell 5 _ rfl
     have k210 := LT.cell 6 _ rfl
     have k211 := LT.cell 7 _ rfl
     have k212 := LT.cell 8 _ rfl
     have k213 := LT.cell 9 _ rfl
     have k214 := LT.cell 10 _ rfl
     have k215 := LT.cell 11 _ rfl
     go_wp2_with (first | (refine wpList_load_known rfl _ (.tmp 136) rfl _ rfl _ HL.out ?_) | (refine wpList_store_row rfl _ (.tmp 23) (.tmp 137) rfl _ _ rfl rfl _ _ Z0 hi5 ho5 ha5 ?_; rw [hV2]) | fail)
     clear hV1 hV2 Z0 hi5 ho5 ha5
     clear k201 k202 k203 k204 k205 k206 k207 k208 k209 k210 k211 k212 k213 k214 k215
     refine (HS1.out _).mono ?_
     rintro e v216 ⟨rfl, q⟩
     have LF := LF.later q
     have LT := LT.later q
     have Q := Q.trans (q.mono Q.size)
     clear q
     have k217 := LF.cell 0 _ rfl
     have k218 := LF.cell 1 _ rfl
     have k219 := LF.cell 2 _ rfl
     have k220 := LT.cell 0 _ rfl
     have k221 := LT.cell 1 _ rfl
     have k222 := LT.cell 2 _ rfl
     have k223 := LT.cell 3 _ rfl
     have k224 := LT.cell 4 _ rfl
     have k225 := LT.cell 5 _ rfl
     have k226 := LT.cell 6 _ rfl
     have k227 := LT.cell 7 _ rfl
     have k228 := LT.cell 8 _ rfl
     have k229 := LT.cell 9 _ rfl
     have k230 := LT.cell 10 _ rfl
     have k231 := LT.cell 11 _ rfl
     go_wp2_with fail
     clear k217 k218 k219 k220 k221 k222 k223 k224 k225 k226 k227 k228 k229 k230 k231
     refine (HS2.out _).mono ?_
     rintro e v232 ⟨rfl, q⟩
     have LF := LF.later q
     have LT := LT.later q
     have Q := Q.trans (q.mono Q.size)
     clear q
     have k233 := LF.cell 0 _ rfl
     have k234 := LF.cell 1 _ rfl
     have k235 := LF.cell 2 _ rfl
     have k236 := LT.cell 0 _ rfl
     have k237 := LT.cell 1 _ rfl
     have k238 := LT.cell 2 _ rfl
     have k239 := LT.cell 3 _ rfl
     have k240 := LT.cell 4 _ rfl
     have k241 := LT.cell 5 _ rfl
     have k242 := LT.cell 6 _ rfl
     have k243 := LT.cell 7 _ rfl
     have k244 := LT.cell 8 _ rfl
     have k245 := LT.cell 9 _ rfl
     have k246 := LT.cell 10 _ rfl
     have k247 := LT.cell 11 _ rfl
     go_wp2_with fail
     clear k233 k234 k235 k236 k237 k238 k239 k240 k241 k242 k243 k244 k245 k246 k247
     go_roundw
     case rel => exact ⟨j + 1, by have := HJ.out; omega, by simp, HJQ.out.trans (Q.mono hws)⟩
     case measure => have := HJ.out; simp [intOf]; omega
    ·obtain rfl : j = 8 := by omega
     clear hj hj2
     obtain ⟨Y2, hY2⟩ : ∃ Y, Y = wr := ⟨_, rfl⟩
     subst hY2
     have HY3 := hid (HY2.out.trans (HJQ.out.mono HY2.out.size))
     clear HJQ HTR HX HY2
     have Q := Below.refl Y2.heap.size Y2
     have hys := HY3.out.size
     go_wp2_with fail
     refine (P2.out _).mono ?_
     rintro e v301 ⟨rfl, q⟩
     have Q := Q.trans (q.mono Q.size)
     clear q
     have LN := Has.new v301 3 #[.int .i64 n, .int .i64 p2]
     have k302 := LN.cell 0 _ rfl
     have k303 := LN.cell 1 _ rfl
     have Q := Q.alloc Q.size (.cells #[.int .i64 n, .int .i64 p2] 3)
     go_wp2_with fail
     clear k302 k303
     obtain ⟨W301, hW301⟩ : ∃ W301, (v301.alloc (.cells #[.int .i64 n, .int .i64 p2] 3)) = W301 := ⟨_, rfl⟩
     rw [hW301] at LN Q ⊢
     clear hW301
     generalize v301.heap.size = b301 at *
     have HNN := hid LN
     have HY4 := hid (HY3.out.trans (Q.mono hys))
     clear LN Q hys
     go_loopw [176] (fun jv wr => ∃ j : Nat, j ≤ 2 ∧ jv = .int .i64 (j : Int) ∧ Below W301.heap.size W301 wr) (fun jv _ => 2 - (intOf jv).toNat)
     case atStart => exact ⟨0, by omega, rfl, Below.refl _ _⟩
     case round =>
      obtain ⟨j, hj2, rfl, hq⟩ := hrel
      have HJQ := hid hq
      clear hq
      obtain ⟨Y3, hY3⟩ : ∃ Y, Y = wr := ⟨_, rfl⟩
      subst hY3
      have HYU := hid (HY4.out.trans (HJQ.out.mono HY4.out.size))
      by_cases hj : j < 2
      ·have hjI : (j : Int) < 2 := by omega
       have hj0 : (0 : Int) ≤ (j : Int) := by omega
       have HJ := hid hj
       obtain ⟨z, hz, hcl⟩ : ∃ z : Int, I64 z ∧ ∀ X, Below Y3.heap.size Y3 X → X.cell? ⟨b301, j, none⟩ = some (.int .i64 z) := by
        have h : j = 0 ∨ j = 1 := by omega
        rcases h with rfl | rfl
        ·exact ⟨_, HN.out.1, fun X hX => ((HNN.out.later HJQ.out).later hX).cell 0 _ rfl⟩
        ·exact ⟨_, (by have := HG.out; unfold I64; omega), fun X hX => ((HNN.out.later HJQ.out).later hX).cell 1 _ rfl⟩
       have k := hcl Y3 (Below.refl _ _)
       clear hcl hj hj2 hz
       go_wp2_with fail
       clear k
       have HLA := hid (HA.out.later HYU.out)
       refine wp_region_ghost [some (.agg #[.int .u64 (lim a 0), .int .u64 (lim a 1), .int .u64 (lim a 2), .int .u64 (lim a 3)]), some (.int .i64 rf), some (.int .i64 (p3 : Int)), some (.agg #[.int .u64 (p3 : Int), .int .u64 0, .int .u64 0, .int .u64 0]), none, none, some (.int .i64 0)] [[], [], [1], [1, 2], [0, 1, 2, 3], [0, 1, 2, 3, 4], []] (fun f g w' => Below Y3.heap.size Y3 w' ∧ (f 4 = true → ∃ B, g 4 = .slice (some ⟨B, 0, none⟩) 2 2 ∧ Y3.heap.size ≤ B ∧ Has w' B 24 #[.int .u64 (lim a 0), .int .u64 (lim a 1), .int .u64 (lim a 2), .int .u64 (lim a 3), .int .u64 (p3 : Int), .int .u64 0, .int .u64 0, .int .u64 0]) ∧ (f 5 = true → g 5 = .int .i64 2)) (by kernel_rfl) (by kernel_rfl) (by kernel_rfl) ?_ ?_ ?_ ?_
       ·rintro f g wa wb ⟨u1, u2, u3⟩ hb
        exact ⟨u1.trans (hb.mono u1.size), fun h => let ⟨B, e, hB, hL⟩ := u2 h; ⟨B, e, hB, hL.later hb⟩, u3⟩
       ·intro f f' g g' wa h
        have u4 := h 4 rfl
        have u5 := h 5 rfl
        simp only [u4.1, u4.2, u5.1, u5.2]
        exact id
       ·exact ⟨(Below.refl _ _).drew, fun h => absurd h (by simp), fun h => absurd h (by simp)⟩
       rintro f g y6 ⟨u1, u2, u3⟩ Dn
       refine GW.known _ rfl (fun hd hf => ?_) ?_
       ·have LA := HLA.out.later u1
        have k0 := LA.cell 0 _ rfl
        have k1 := LA.cell 1 _ rfl
        have k2 := LA.cell 2 _ rfl
        have k3 := LA.cell 3 _ rfl
        clear u1 u2 u3 Dn hd LA
        go_wp2_with fail
        exact ⟨rfl, rfl, Below.refl _ _⟩
       simp only [Act.put, sT, sS, sZ]
       refine GW.known _ rfl (fun hd hf => ?_) ?_
       ·clear u1 u2 u3 Dn hd
        go_wp2
        exact ⟨rfl, rfl, Below.refl _ _⟩
       simp only [Act.put, sT, sS, sZ]
       refine GW.known _ rfl (fun hd hf => ?_) ?_
       ·clear u1 u2 u3 Dn hd
        go_wp2_with fail
        refine (P3.out _).mono ?_
        rintro e u ⟨rfl, hb⟩
        go_wp2
        exact ⟨rfl, rfl, hb⟩
       simp only [Act.put, sT, sS, sZ]
       refine GW.known _ rfl (fun hd hf => ?_) ?_
       ·clear u1 u2 u3 Dn hd
        go_wp2_with fail
        refine (O3.out _).mono ?_
        rintro e u ⟨rfl, hb⟩
        go_wp2
        exact ⟨rfl, rfl, hb⟩
       simp only [Act.put, sT, sS, sZ]
       refine GW.open rfl (fun hd hf => ?_) ?_
       ·have f5 : f 5 = false := (by cases h : f 5 with | false => rfl | true => exact absurd (Dn 5 h 4 (by decide)) (by rw [hf]; simp))
        have hu5 : upd f 4 true 5 = false := (upd_ne f true (show (5 : Nat) ≠ 4 by decide)).trans f5
        clear Dn hd
        go_wp2
        refine ⟨rfl, u1.alloc u1.size _, fun _ => ⟨_, rfl, u1.size, Has.new _ _ _⟩, fun h => ?_⟩
        rw [hu5] at h
        cases h
       simp only [Act.put, sT, sS, sZ]
       refine GW.open rfl (fun hd hf => ?_) ?_
       ·obtain ⟨B, eB, hB, LB⟩ := u2 (hd 4 (by decide))
        clear Dn hd
        rw [eB]
        go_wp2
        exact ⟨rfl, u1, fun _ => ⟨B, (upd_ne g _ (show (4 : Nat) ≠ 5 by decide)).trans eB, hB, LB⟩, fun _ => upd_self _ _ _⟩
       simp only [Act.put, sT, sS, sZ]
       refine GW.known _ rfl (fun hd hf => ?_) ?_
       ·clear u1 u2 u3 Dn hd
        go_wp2
        exact ⟨rfl, rfl, Below.refl _ _⟩
       simp only [Act.put, sT, sS, sZ]
       refine GW.nil (fun hall => ?_)
       obtain ⟨B, eB, hB, LW⟩ := u2 (hall 4 (by omega))
       have e5 := u3 (hall 5 (by omega))
       rw [eB, e5]
       have HLW := hid LW
       have HYW := hid u1
       clear eB e5 u1 u2 u3 LW hall Dn hB
       go_wp2_with fail
       go_loopw [186] (fun kv wr => ∃ k : Nat, k ≤ 2 ∧ kv = .int .i64 (k : Int) ∧ Below y6.heap.size y6 wr) (fun kv _ => 2 - (intOf kv).toNat)
       case atStart => exact ⟨0, by omega, rfl, Below.refl _ _⟩
       case round =>
        obtain ⟨k, hk2, rfl, hq⟩ := hrel
        have HKQ := hid hq
        clear hq
        by_cases hk : k < 2
        ·have hkI : (k : Int) < 2 := by omega
         have hk0 : (0 : Int) ≤ (k : Int) := by omega
         have HKK := hid hk
         obtain ⟨x, hx, hl⟩ : ∃ x : Nat, W256 x ∧ ∀ X, Below y6.heap.size y6 X → (loadVar 24 ⟨B, k * 4, none⟩).run Tryd.prog X = .ok (wv x) X := by
          have h : k = 0 ∨ k = 1 := by omega
          rcases h with rfl | rfl
          ·exact ⟨a, HW.out.1, fun X hX => word_load (HLW.out.later hX) 0 rfl⟩
          ·refine ⟨p3, by unfold W256; have := HG.out; omega, fun X hX => ?_⟩
           rw [wv_natG p3 (by have := HG.out; omega)]
           exact word_load (HLW.out.later hX) 1 rfl
         have HL := hid (show (loadVar 24 ⟨B, k * 4, none⟩).run Tryd.prog wr = .ok (.agg #[.int .u64 (lim x 0), .int .u64 (lim x 1), .int .u64 (lim x 2), .int .u64 (lim x 3)]) wr from hl wr HKQ.out)
         obtain ⟨y1, y2, y3, hy⟩ : ∃ (y1 y2 : Int) (y3 : Bool), callV z x f0 f1 f2 = .tuple #[.int .i64 y1, .int .i64 y2, .bool y3] := by unfold callV; split <;> exact ⟨_, _, _, rfl⟩
         have S1 := call_ret z x hx f0 f1 f2
         have S2 := rcall_ret z x hx f0 f1 f2
         rw [hy] at S1 S2
         unfold wv at S1 S2
         have HS1 := hid S1
         have HS2 := hid S2
         have LF := HF.out.later (HYU.out.trans ((HYW.out.mono HYU.out.size).trans (HKQ.out.mono (Nat.le_trans HYU.out.size HYW.out.size))))
         clear hk hk2 hl S1 S2 hy hx
         obtain ⟨V1, hV1, Z0, qz⟩ := newBox wr 24 #[.int .u64 0, .int .u64 0, .int .u64 0, .int .u64 0]
         have hi5 : (Tryd.prog.info? 24).map (·.size) = some (#[.int .u64 (lim x 0), .int .u64 (lim x 1), .int .u64 (lim x 2), .int .u64 (lim x 3)] : Array Value).size := by kernel_rfl
         have ho5 : (#[.int .u64 0, .int .u64 0, .int .u64 0, .int .u64 0] : Array Value).size = (#[.int .u64 (lim x 0), .int .u64 (lim x 1), .int .u64 (lim x 2), .int .u64 (lim x 3)] : Array Value).size := rfl
         have ha5 : (#[.int .u64 (lim x 0), .int .u64 (lim x 1), .int .u64 (lim x 2), .int .u64 (lim x 3)] : Array Value).all (·.oneCell') = true := by simp [Value.oneCell']
         have Q := below_rowG qz (g := wr.heap.size) (Nat.le_refl _) #[.int .u64 (lim x 0), .int .u64 (lim x 1), .int .u64 (lim x 2), .int .u64 (lim x 3)]
         have LT : Has (V1.setRow wr.heap.size #[.int .u64 (lim x 0), .int .u64 (lim x 1), .int .u64 (lim x 2), .int .u64 (lim x 3)]) wr.heap.size 24 #[.int .u64 (lim x 0), .int .u64 (lim x 1), .int .u64 (lim x 2), .int .u64 (lim x 3)] := setRow_heap _ _ _ _ _ _ Z0
         obtain ⟨V2, hV2⟩ : ∃ V2, V1.setRow wr.heap.size #[.int .u64 (lim x 0), .int .u64 (lim x 1), .int .u64 (lim x 2), .int .u64 (lim x 3)] = V2 := ⟨_, rfl⟩
         rw [hV2] at Q
         have LT : Has V2 wr.heap.size 24 #[.int .u64 (lim x 0), .int .u64 (lim x 1), .int .u64 (lim x 2), .int .u64 (lim x 3)] := hV2 ▸ LT
         have LF := LF.later Q
         clear qz
         have hws := HKQ.out.size
         have k401 := LF.cell 0 _ rfl
         have k402 := LF.cell 1 _ rfl
         have k403 := LF.cell 2 _ rfl
         have k404 := LT.cell 0 _ rfl
         have k405 := LT.cell 1 _ rfl
         have k406 := LT.cell 2 _ rfl
         have k407 := LT.cell 3 _ rfl
         go_wp2_with (first | (refine wpList_load_known rfl _ (.tmp 188) rfl _ rfl _ HL.out ?_) | (refine wpList_store_row rfl _ (.tmp 31) (.tmp 189) rfl _ _ rfl rfl _ _ Z0 hi5 ho5 ha5 ?_; rw [hV2]) | fail)
         clear hV1 hV2 Z0 hi5 ho5 ha5
         clear k401 k402 k403 k404 k405 k406 k407
         refine (HS1.out _).mono ?_
         rintro e v408 ⟨rfl, q⟩
         have LF := LF.later q
         have LT := LT.later q
         have Q := Q.trans (q.mono Q.size)
         clear q
         have k409 := LF.cell 0 _ rfl
         have k410 := LF.cell 1 _ rfl
         have k411 := LF.cell 2 _ rfl
         have k412 := LT.cell 0 _ rfl
         have k413 := LT.cell 1 _ rfl
         have k414 := LT.cell 2 _ rfl
         have k415 := LT.cell 3 _ rfl
         go_wp2_with fail
         clear k409 k410 k411 k412 k413 k414 k415
         refine (HS2.out _).mono ?_
         rintro e v416 ⟨rfl, q⟩
         have LF := LF.later q
         have LT := LT.later q
         have Q := Q.trans (q.mono Q.size)
         clear q
         have k417 := LF.cell 0 _ rfl
         have k418 := LF.cell 1 _ rfl
         have k419 := LF.cell 2 _ rfl
         have k420 := LT.cell 0 _ rfl
         have k421 := LT.cell 1 _ rfl
         have k422 := LT.cell 2 _ rfl
         have k423 := LT.cell 3 _ rfl
         go_wp2_with fail
         clear k417 k418 k419 k420 k421 k422 k423
         go_roundw
         case rel => exact ⟨k + 1, by have := HKK.out; omega, by simp, HKQ.out.trans (Q.mono hws)⟩
         case measure => have := HKK.out; simp [intOf]; omega
        ·obtain rfl : k = 2 := by omega
         clear hk hk2
         go_wp2_with fail
         go_roundw
         case rel => exact ⟨j + 1, by have := HJ.out; omega, by simp, HJQ.out.trans ((HYW.out.trans (HKQ.out.mono HYW.out.size)).mono HJQ.out.size)⟩
         case measure => have := HJ.out; simp [intOf]; omega
      ·obtain rfl : j = 2 := by omega
       clear hj hj2
       by_cases hL : 300 < (sd.size : Int)
       ·have hsd2 : (sd.size : Int) ≤ 140737488355328 := by have := HSD.out; omega
        have hL3 : (300 : Int) ≤ (sd.size : Int) := by omega
        have hL4 : 300 ≤ sd.size := by omega
        go_wp2_with fail
        obtain ⟨xs, hxs⟩ : ∃ xs, sd.extract 0 300 = xs := ⟨_, rfl⟩
        rw [hxs]
        have hxz : xs.size ≤ 1048576 := by rw [← hxs, ByteArray.size_extract]; omega
        clear hxs hL hL3 hL4 hsd2
        have Qw := HQ.out.trans (HYU.out.mono HQ.out.size)
        have LS := HS.out.later HYU.out
        have LP := HP.out.later HYU.out
        refine wp_region_ghost [some (.pointer (some ⟨w.heap.size + 1 + 1 + 1 + 1 + 1, 0, none⟩)), some (.slice ra rn rc), some (.pointer (some ⟨w.heap.size + 1 + 1 + 1 + 1 + 1, 0, none⟩)), some (.slice ra rn rc), some (.int .i64 (rn : Int)), some (.int .i64 (m1 : Int)), some (.slice (uptoK ra rc) m1 rc), some (.pointer (some ⟨w.heap.size + 1 + 1 + 1 + 1 + 1, 1, none⟩)), some (.slice sa sn sc), some (.pointer (some ⟨w.heap.size + 1 + 1 + 1 + 1 + 1, 1, none⟩)), some (.slice sa sn sc), some (.int .i64 (sn : Int)), some (.int .i64 (m2 : Int)), some (.slice (uptoK sa sc) m2 sc), some (.agg #[.slice (uptoK ra rc) m1 rc, .slice (uptoK sa sc) m2 sc]), none, none] [[], [0], [], [2], [2, 3], [2, 3, 4], [0, 1, 2, 3, 4, 5], [], [7], [], [9], [9, 10], [9, 10, 11], [7, 8, 9, 10, 11, 12], [0, 1, 2, 3, 4, 5, 6, 7, 8, 9, 10, 11, 12, 13], [], [0, 1, 2, 3, 4, 5, 6, 7, 8, 9, 10, 11, 12, 13, 14, 15]] (fun f g w' => Below Y3.heap.size Y3 w' ∧ (f 15 = true → ∃ B, g 15 = .pointer (some ⟨B, 0, none⟩) ∧ Y3.heap.size ≤ B ∧ Has w' B 30 (cellsIf (f 16) #[.slice (uptoK ra rc) m1 rc, .slice (uptoK sa sc) m2 sc] #[.slice none 0 0, .slice none 0 0])))
         (by kernel_rfl) (by kernel_rfl) (by kernel_rfl) ?_ ?_ ?_ ?_
        ·rintro f g wa wb ⟨h1, h2⟩ hb
         exact ⟨h1.trans (hb.mono h1.size), fun h => let ⟨B, e, hB, hL⟩ := h2 h; ⟨B, e, hB, hL.later hb⟩⟩
        ·intro f f' g g' wa h
         have ha := h 15 rfl
         have hs := h 16 rfl
         simp only [ha.1, ha.2, hs.1]
         exact id
        ·exact ⟨(Below.refl _ _).drew, by simp⟩
        rintro f g y7 ⟨h1, h2⟩ Dn
        have LS := LS.later h1
        have LP := LP.later h1
        have g0 := LS.cell 0 _ rfl
        have g1 := LS.cell 1 _ rfl
        obtain ⟨hmi1, hmi2⟩ := HMIN.out
        have hmi3 := HIF1.out
        have hmi4 := HIF2.out
        have hmi5 := HIG1.out
        have hmi6 := HIG2.out
        refine GW.known _ rfl (fun hd hf => ?_) ?_
        ·go_wp2
         exact ⟨rfl, rfl, Below.refl _ _⟩
        simp only [Act.put, sT, sS, sZ]
        refine GW.known _ rfl (fun hd hf => ?_) ?_
        ·go_wp2
         exact ⟨rfl, rfl, Below.refl _ _⟩
        simp only [Act.put, sT, sS, sZ]
        refine GW.known _ rfl (fun hd hf => ?_) ?_
        ·go_wp2
         exact ⟨rfl, rfl, Below.refl _ _⟩
        simp only [Act.put, sT, sS, sZ]
        refine GW.known _ rfl (fun hd hf => ?_) ?_
        ·go_wp2
         exact ⟨rfl, rfl, Below.refl _ _⟩
        simp only [Act.put, sT, sS, sZ]
        refine GW.known _ rfl (fun hd hf => ?_) ?_
        ·go_wp2
         exact ⟨rfl, rfl, Below.refl _ _⟩
        simp only [Act.put, sT, sS, sZ]
        refine GW.known _ rfl (fun hd hf => ?_) ?_
        ·go_wp2
         exact ⟨rfl, rfl, Below.refl _ _⟩
        simp only [Act.put, sT, sS, sZ]
        refine GW.known _ rfl (fun hd hf => ?_) ?_
        ·go_wp2_with (refine wpList_slice_upto rfl (.tmp 238) (.tmp 242) rfl _ _ _ rfl rfl (SL1.out _) ?_)
         exact ⟨rfl, rfl, Below.refl _ _⟩
        simp only [Act.put, sT, sS, sZ]
        refine GW.known _ rfl (fun hd hf => ?_) ?_
        ·go_wp2
         exact ⟨rfl, rfl, Below.refl _ _⟩
        simp only [Act.put, sT, sS, sZ]
        refine GW.known _ rfl (fun hd hf => ?_) ?_
        ·go_wp2
         exact ⟨rfl, rfl, Below.refl _ _⟩
        simp only [Act.put, sT, sS, sZ]
        refine GW.known _ rfl (fun hd hf => ?_) ?_
        ·go_wp2
         exact ⟨rfl, rfl, Below.refl _ _⟩
        simp only [Act.put, sT, sS, sZ]
        refine GW.known _ rfl (fun hd hf => ?_) ?_
        ·go_wp2
         exact ⟨rfl, rfl, Below.refl _ _⟩
        simp only [Act.put, sT, sS, sZ]
        refine GW.known _ rfl (fun hd hf => ?_) ?_
        ·go_wp2
         exact ⟨rfl, rfl, Below.refl _ _⟩
        simp only [Act.put, sT, sS, sZ]
        refine GW.known _ rfl (fun hd hf => ?_) ?_
        ·go_wp2
         exact ⟨rfl, rfl, Below.refl _ _⟩
        simp only [Act.put, sT, sS, sZ]
        refine GW.known _ rfl (fun hd hf => ?_) ?_
        ·go_wp2_with (refine wpList_slice_upto rfl (.tmp 245) (.tmp 249) rfl _ _ _ rfl rfl (SL2.out _) ?_)
         exact ⟨rfl, rfl, Below.refl _ _⟩
        simp only [Act.put, sT, sS, sZ]
        refine GW.known _ rfl (fun hd hf => ?_) ?_
        ·go_wp2
         exact ⟨rfl, rfl, Below.refl _ _⟩
        simp only [Act.put, sT, sS, sZ]
        refine GW.open rfl (fun hd hf => ?_) ?_
        ·have fs : f 16 = false := by
          cases h : f 16 with
          | false => rfl
          | true => have := Dn 16 h 15 (by decide); rw [hf] at this; cases this
         have fu : upd f 15 true 16 = false := (upd_ne f true (show (16 : Nat) ≠ 15 by decide)).trans fs
         go_wp2
         refine ⟨rfl, h1.alloc h1.size _, fun _ => ⟨_, rfl, h1.size, ?_⟩⟩
         show Has _ _ 30 (cellsIf (upd f 15 true 16) #[.slice (uptoK ra rc) m1 rc, .slice (uptoK sa sc) m2 sc] #[.slice none 0 0, .slice none 0 0])
         rw [fu, cellsIf_false]
         exact Has.new _ _ _
        simp only [Act.put, sT, sS, sZ]
        refine GW.open rfl (fun hd hf => ?_) ?_
        ·obtain ⟨B, eB, hB, LB⟩ := h2 (hd 15 (by decide))
         rw [hf, cellsIf_false] at LB
         rw [eB]
         have cc0 := LB.cell 0 _ rfl
         have zz0 := LB.frozen 0
         have cc1 := LB.cell 1 _ rfl
         have zz1 := LB.frozen 1
         go_wp2
         refine ⟨rfl, (h1.setCell (p := ⟨B, 0, none⟩) hB (.slice (uptoK ra rc) m1 rc)).setCell (p := ⟨B, 1, none⟩) hB (.slice (uptoK sa sc) m2 sc), fun _ => ⟨B, eB, hB, ?_⟩⟩
         show Has _ B 30 (cellsIf (upd f 16 true 16) #[.slice (uptoK ra rc) m1 rc, .slice (uptoK sa sc) m2 sc] #[.slice none 0 0, .slice none 0 0])
         rw [upd_self, cellsIf_true]
         exact (LB.set 0 (.slice (uptoK ra rc) m1 rc)).set 1 (.slice (uptoK sa sc) m2 sc)
        simp only [Act.put]
        refine GW.nil (fun hall => ?_)
        obtain ⟨gT, eB, hB, LT⟩ := h2 (hall 15 (by omega))
        rw [hall 16 (by omega), cellsIf_true] at LT
        have Q7 := Qw.trans (h1.mono Qw.size)
        have HY7 := hid (HYU.out.trans (h1.mono HYU.out.size))
        clear h2 Dn hall g0 g1 hmi1 hmi2 hmi3 hmi4 hmi5 hmi6 h1 Qw
        rw [eB]
        clear eB hB LS
        have c0 := LP.cell 0 _ rfl
        have c1 := LP.cell 1 _ rfl
        have HLT := hid LT
        clear LT LP
        go_wp2_with fail
        clear c0 c1
        refine (sets10_any y7 _ _ z1 z2 (HR1.out.later Q7) (HR2.out.later Q7)).mono ?_
        rintro _ w8 ⟨ux, uy, rfl, LU1, LU2, q8⟩
        obtain ⟨b3, d3, rfl, _, _⟩ := LU1.shape
        obtain ⟨b4, d4, rfl, _, _⟩ := LU2.shape
        have HUL := hid (show (setN z1).length + (setN z2).length ≤ 50000 by have := Nat.le_trans (setL_len (keysN z1)) (keysN_len z1); have := Nat.le_trans (setL_len (keysN z2)) (keysN_len z2); unfold setN; omega)
        obtain ⟨n3, hn3⟩ : ∃ n, (setN z1).length = n := ⟨_, rfl⟩
        obtain ⟨n4, hn4⟩ : ∃ n, (setN z2).length = n := ⟨_, rfl⟩
        rw [hn3] at LU1 ⊢
        rw [hn4] at LU2 ⊢
        clear hn3 hn4
        have HLU := hid (fun (X : World) (hX : Below w8.heap.size w8 X) => And.intro (LU1.later hX) (LU2.later hX))
        have Q8 := Q7.trans (q8.mono Q7.size)
        have HY8 := hid (HY7.out.trans (q8.mono HY7.out.size))
        have HLT := hid (HLT.out.later q8)
        have HTW := hid (fun (X : World) (hX : Below w8.heap.size w8 X) => And.intro (HTK.out.1.later (Q8.trans (hX.mono Q8.size))) (HTK.out.2.later (Q8.trans (hX.mono Q8.size))))
        have LA := HA.out.later HY8.out
        have LF := HF.out.later HY8.out
        have LT := HLT.out
        have hq8 := Q8.size
        have Q := Below.refl w8.heap.size w8
        clear LU1 LU2 q8 Q7 HLT
        have LA := LA.alloc (.cells #[.slice b3 n3 d3, .slice b4 n4 d4] 30)
        have LF := LF.alloc (.cells #[.slice b3 n3 d3, .slice b4 n4 d4] 30)
        have LT := LT.alloc (.cells #[.slice b3 n3 d3, .slice b4 n4 d4] 30)
        have LU := Has.new w8 30 #[.slice b3 n3 d3, .slice b4 n4 d4]
        have k501 := LU.cell 0 _ rfl
        have k502 := LU.cell 1 _ rfl
        have Q := Q.alloc Q.size (.cells #[.slice b3 n3 d3, .slice b4 n4 d4] 30)
        go_wp2_with fail
        clear k501 k502
        obtain ⟨W501, hW501⟩ : ∃ W501, (w8.alloc (.cells #[.slice b3 n3 d3, .slice b4 n4 d4] 30)) = W501 := ⟨_, rfl⟩
        rw [hW501] at LA LF LT LU Q ⊢
        clear hW501
        generalize w8.heap.size = b501 at *
        have QF := hid (Q8.trans (Q.mono hq8))
        have K1 := HTW.out _ Q
        have K2 := HLU.out _ Q
        have HD1 := hid (fun z : Ext W501 => Ext.atK (declared_any z.w _ _ ta tb (K1.1.later z.below) (K1.2.later z.below) HTL.out))
        have HD2 := hid (fun z : Ext W501 => Ext.atK (rdecl_any z.w _ _ ta tb (K1.1.later z.below) (K1.2.later z.below) HTL.out))
        have HD3 := hid (fun z : Ext W501 => Ext.atK (declared_any z.w _ _ (setN z1) (setN z2) (K2.1.later z.below) (K2.2.later z.below) HUL.out))
        have HD4 := hid (fun z : Ext W501 => Ext.atK (rdecl_any z.w _ _ (setN z1) (setN z2) (K2.1.later z.below) (K2.2.later z.below) HUL.out))
        obtain ⟨e1, he1⟩ : ∃ x : Int, ((declN ta tb : Nat) : Int) = x := ⟨_, rfl⟩
        obtain ⟨e2, he2⟩ : ∃ x : Int, ((declN (setN z1) (setN z2) : Nat) : Int) = x := ⟨_, rfl⟩
        rw [he1] at HD1 HD2
        rw [he2] at HD3 HD4
        have X1 := exp_retG a HW.out.1
        have X2 := rexp_ret a
        have X3 := touch_ret f0 f1
        have X4 := rtouch_ret f0 f1
        have X5 := start_ret xs hxz f0
        have X6 := rstart_ret xs hxz f0
        obtain ⟨e3, he3⟩ : ∃ x : Int, ((50 * nbG a : Nat) : Int) = x := ⟨_, rfl⟩
        obtain ⟨e4, he4⟩ : ∃ x : Int, touchN f0 f1 = x := ⟨_, rfl⟩
        obtain ⟨e5, he5⟩ : ∃ x : Int, startN xs f0 = x := ⟨_, rfl⟩
        rw [he3] at X1 X2
        rw [he4] at X3 X4
        rw [he5] at X5 X6
        unfold wv at X1 X2
        have HX1 := hid X1
        have HX2 := hid X2
        have HX3 := hid X3
        have HX4 := hid X4
        have HX5 := hid X5
        have HX6 := hid X6
        clear X1 X2 X3 X4 X5 X6 he1 he2 he3 he4 he5 K1 K2 Q Q8 hq8
        have k1 : ∀ x : Ext W501, x.w.cell? ⟨w.heap.size, 0, none⟩ = some (.int .u64 (lim a 0)) := fun x => (LA.later x.below).cell 0 _ rfl
        have k2 : ∀ x : Ext W501, x.w.cell? ⟨w.heap.size, 1, none⟩ = some (.int .u64 (lim a 1)) := fun x => (LA.later x.below).cell 1 _ rfl
        have k3 : ∀ x : Ext W501, x.w.cell? ⟨w.heap.size, 2, none⟩ = some (.int .u64 (lim a 2)) := fun x => (LA.later x.below).cell 2 _ rfl
        have k4 : ∀ x : Ext W501, x.w.cell? ⟨w.heap.size, 3, none⟩ = some (.int .u64 (lim a 3)) := fun x => (LA.later x.below).cell 3 _ rfl
        have k5 : ∀ x : Ext W501, x.w.cell? ⟨w.heap.size + 1 + 1 + 1, 0, none⟩ = some (.bool f0) := fun x => (LF.later x.below).cell 0 _ rfl
        have k6 : ∀ x : Ext W501, x.w.cell? ⟨w.heap.size + 1 + 1 + 1, 1, none⟩ = some (.bool f1) := fun x => (LF.later x.below).cell 1 _ rfl
        have k7 : ∀ x : Ext W501, x.w.cell? ⟨gT, 0, none⟩ = some (.slice (uptoK ra rc) m1 rc) := fun x => (LT.later x.below).cell 0 _ rfl
        have k8 : ∀ x : Ext W501, x.w.cell? ⟨gT, 1, none⟩ = some (.slice (uptoK sa sc) m2 sc) := fun x => (LT.later x.below).cell 1 _ rfl
        have k9 : ∀ x : Ext W501, x.w.cell? ⟨b501, 0, none⟩ = some (.slice b3 n3 d3) := fun x => (LU.later x.below).cell 0 _ rfl
        have k10 : ∀ x : Ext W501, x.w.cell? ⟨b501, 1, none⟩ = some (.slice b4 n4 d4) := fun x => (LU.later x.below).cell 1 _ rfl
        clear LA LF LT LU
        try simp only [List.append]
        refine wp_region_quick (C := Grows W501) (by kernel_rfl) (by kernel_rfl) (by kernel_rfl) (grows_refl W501) ?_
        repeat (go_big_quiet_step (first | (with_reducible exact Ret.at HX1.out _) | (with_reducible exact Ret.at HX2.out _) | (with_reducible exact Ret.at HX3.out _) | (with_reducible exact Ret.at HX4.out _) | (with_reducible exact Ret.at HX5.out _) | (with_reducible exact Ret.at HX6.out _) | (with_reducible exact HD1.out _) | (with_reducible exact HD2.out _) | (with_reducible exact HD3.out _) | (with_reducible exact HD4.out _)))
        refine wpQuiet_nil ?_
        rintro _ ⟨xe, rfl⟩
        go_wp2
        go_ret
        exact ⟨rfl, QF.out.trans (xe.below.mono QF.out.size)⟩
       ·have hxz : sd.size ≤ 1048576 := by omega
        go_wp2_with fail
        clear hL
        obtain ⟨xs, hxs⟩ : ∃ xs, sd = xs := ⟨_, rfl⟩
        rw [hxs] at hxz ⊢
        clear hxs
        have Qw := HQ.out.trans (HYU.out.mono HQ.out.size)
        have LS := HS.out.later HYU.out
        have LP := HP.out.later HYU.out
        refine wp_region_ghost [some (.pointer (some ⟨w.heap.size + 1 + 1 + 1 + 1 + 1, 0, none⟩)), some (.slice ra rn rc), some (.pointer (some ⟨w.heap.size + 1 + 1 + 1 + 1 + 1, 0, none⟩)), some (.slice ra rn rc), some (.int .i64 (rn : Int)), some (.int .i64 (m1 : Int)), some (.slice (uptoK ra rc) m1 rc), some (.pointer (some ⟨w.heap.size + 1 + 1 + 1 + 1 + 1, 1, none⟩)), some (.slice sa sn sc), some (.pointer (some ⟨w.heap.size + 1 + 1 + 1 + 1 + 1, 1, none⟩)), some (.slice sa sn sc), some (.int .i64 (sn : Int)), some (.int .i64 (m2 : Int)), some (.slice (uptoK sa sc) m2 sc), some (.agg #[.slice (uptoK ra rc) m1 rc, .slice (uptoK sa sc) m2 sc]), none, none] [[], [0], [], [2], [2, 3], [2, 3, 4], [0, 1, 2, 3, 4, 5], [], [7], [], [9], [9, 10], [9, 10, 11], [7, 8, 9, 10, 11, 12], [0, 1, 2, 3, 4, 5, 6, 7, 8, 9, 10, 11, 12, 13], [], [0, 1, 2, 3, 4, 5, 6, 7, 8, 9, 10, 11, 12, 13, 14, 15]] (fun f g w' => Below Y3.heap.size Y3 w' ∧ (f 15 = true → ∃ B, g 15 = .pointer (some ⟨B, 0, none⟩) ∧ Y3.heap.size ≤ B ∧ Has w' B 30 (cellsIf (f 16) #[.slice (uptoK ra rc) m1 rc, .slice (uptoK sa sc) m2 sc] #[.slice none 0 0, .slice none 0 0])))
         (by kernel_rfl) (by kernel_rfl) (by kernel_rfl) ?_ ?_ ?_ ?_
        ·rintro f g wa wb ⟨h1, h2⟩ hb
         exact ⟨h1.trans (hb.mono h1.size), fun h => let ⟨B, e, hB, hL⟩ := h2 h; ⟨B, e, hB, hL.later hb⟩⟩
        ·intro f f' g g' wa h
         have ha := h 15 rfl
         have hs := h 16 rfl
         simp only [ha.1, ha.2, hs.1]
         exact id
        ·exact ⟨(Below.refl _ _).drew, by simp⟩
        rintro f g y7 ⟨h1, h2⟩ Dn
        have LS := LS.later h1
        have LP := LP.later h1
        have g0 := LS.cell 0 _ rfl
        have g1 := LS.cell 1 _ rfl
        obtain ⟨hmi1, hmi2⟩ := HMIN.out
        have hmi3 := HIF1.out
        have hmi4 := HIF2.out
        have hmi5 := HIG1.out
        have hmi6 := HIG2.out
        refine GW.known _ rfl (fun hd hf => ?_) ?_
        ·go_wp2
         exact ⟨rfl, rfl, Below.refl _ _⟩
        simp only [Act.put, sT, sS, sZ]
        refine GW.known _ rfl (fun hd hf => ?_) ?_
        ·go_wp2
         exact ⟨rfl, rfl, Below.refl _ _⟩
        simp only [Act.put, sT, sS, sZ]
        refine GW.known _ rfl (fun hd hf => ?_) ?_
        ·go_wp2
         exact ⟨rfl, rfl, Below.refl _ _⟩
        simp only [Act.put, sT, sS, sZ]
        refine GW.known _ rfl (fun hd hf => ?_) ?_
        ·go_wp2
         exact ⟨rfl, rfl, Below.refl _ _⟩
        simp only [Act.put, sT, sS, sZ]
        refine GW.known _ rfl (fun hd hf => ?_) ?_
        ·go_wp2
         exact ⟨rfl, rfl, Below.refl _ _⟩
        simp only [Act.put, sT, sS, sZ]
        refine GW.known _ rfl (fun hd hf => ?_) ?_
        ·go_wp2
         exact ⟨rfl, rfl, Below.refl _ _⟩
        simp only [Act.put, sT, sS, sZ]
        refine GW.known _ rfl (fun hd hf => ?_) ?_
        ·go_wp2_with (refine wpList_slice_upto rfl (.tmp 238) (.tmp 242) rfl _ _ _ rfl rfl (SL1.out _) ?_)
         exact ⟨rfl, rfl, Below.refl _ _⟩
        simp only [Act.put, sT, sS, sZ]
        refine GW.known _ rfl (fun hd hf => ?_) ?_
        ·go_wp2
         exact ⟨rfl, rfl, Below.refl _ _⟩
        simp only [Act.put, sT, sS, sZ]
        refine GW.known _ rfl (fun hd hf => ?_) ?_
        ·go_wp2
         exact ⟨rfl, rfl, Below.refl _ _⟩
        simp only [Act.put, sT, sS, sZ]
        refine GW.known _ rfl (fun hd hf => ?_) ?_
        ·go_wp2
         exact ⟨rfl, rfl, Below.refl _ _⟩
        simp only [Act.put, sT, sS, sZ]
        refine GW.known _ rfl (fun hd hf => ?_) ?_
        ·go_wp2
         exact ⟨rfl, rfl, Below.refl _ _⟩
        simp only [Act.put, sT, sS, sZ]
        refine GW.known _ rfl (fun hd hf => ?_) ?_
        ·go_wp2
         exact ⟨rfl, rfl, Below.refl _ _⟩
        simp only [Act.put, sT, sS, sZ]
        refine GW.known _ rfl (fun hd hf => ?_) ?_
        ·go_wp2
         exact ⟨rfl, rfl, Below.refl _ _⟩
        simp only [Act.put, sT, sS, sZ]
        refine GW.known _ rfl (fun hd hf => ?_) ?_
        ·go_wp2_with (refine wpList_slice_upto rfl (.tmp 245) (.tmp 249) rfl _ _ _ rfl rfl (SL2.out _) ?_)
         exact ⟨rfl, rfl, Below.refl _ _⟩
        simp only [Act.put, sT, sS, sZ]
        refine GW.known _ rfl (fun hd hf => ?_) ?_
        ·go_wp2
         exact ⟨rfl, rfl, Below.refl _ _⟩
        simp only [Act.put, sT, sS, sZ]
        refine GW.open rfl (fun hd hf => ?_) ?_
        ·have fs : f 16 = false := by
          cases h : f 16 with
          | false => rfl
          | true => have := Dn 16 h 15 (by decide); rw [hf] at this; cases this
         have fu : upd f 15 true 16 = false := (upd_ne f true (show (16 : Nat) ≠ 15 by decide)).trans fs
         go_wp2
         refine ⟨rfl, h1.alloc h1.size _, fun _ => ⟨_, rfl, h1.size, ?_⟩⟩
         show Has _ _ 30 (cellsIf (upd f 15 true 16) #[.slice (uptoK ra rc) m1 rc, .slice (uptoK sa sc) m2 sc] #[.slice none 0 0, .slice none 0 0])
         rw [fu, cellsIf_false]
         exact Has.new _ _ _
        simp only [Act.put, sT, sS, sZ]
        refine GW.open rfl (fun hd hf => ?_) ?_
        ·obtain ⟨B, eB, hB, LB⟩ := h2 (hd 15 (by decide))
         rw [hf, cellsIf_false] at LB
         rw [eB]
         have cc0 := LB.cell 0 _ rfl
         have zz0 := LB.frozen 0
         have cc1 := LB.cell 1 _ rfl
         have zz1 := LB.frozen 1
         go_wp2
         refine ⟨rfl, (h1.setCell (p := ⟨B, 0, none⟩) hB (.slice (uptoK ra rc) m1 rc)).setCell (p := ⟨B, 1, none⟩) hB (.slice (uptoK sa sc) m2 sc), fun _ => ⟨B, eB, hB, ?_⟩⟩
         show Has _ B 30 (cellsIf (upd f 16 true 16) #[.slice (uptoK ra rc) m1 rc, .slice (uptoK sa sc) m2 sc] #[.slice none 0 0, .slice none 0 0])
         rw [upd_self, cellsIf_true]
         exact (LB.set 0 (.slice (uptoK ra rc) m1 rc)).set 1 (.slice (uptoK sa sc) m2 sc)
        simp only [Act.put]
        refine GW.nil (fun hall => ?_)
        obtain ⟨gT, eB, hB, LT⟩ := h2 (hall 15 (by omega))
        rw [hall 16 (by omega), cellsIf_true] at LT
        have Q7 := Qw.trans (h1.mono Qw.size)
        have HY7 := hid (HYU.out.trans (h1.mono HYU.out.size))
        clear h2 Dn hall g0 g1 hmi1 hmi2 hmi3 hmi4 hmi5 hmi6 h1 Qw
        rw [eB]
        clear eB hB LS
        have c0 := LP.cell 0 _ rfl
        have c1 := LP.cell 1 _ rfl
        have HLT := hid LT
        clear LT LP
        go_wp2_with fail
        clear c0 c1
        refine (sets10_any y7 _ _ z1 z2 (HR1.out.later Q7) (HR2.out.later Q7)).mono ?_
        rintro _ w8 ⟨ux, uy, rfl, LU1, LU2, q8⟩
        obtain ⟨b3, d3, rfl, _, _⟩ := LU1.shape
        obtain ⟨b4, d4, rfl, _, _⟩ := LU2.shape
        have HUL := hid (show (setN z1).length + (setN z2).length ≤ 50000 by have := Nat.le_trans (setL_len (keysN z1)) (keysN_len z1); have := Nat.le_trans (setL_len (keysN z2)) (keysN_len z2); unfold setN; omega)
        obtain ⟨n3, hn3⟩ : ∃ n, (setN z1).length = n := ⟨_, rfl⟩
        obtain ⟨n4, hn4⟩ : ∃ n, (setN z2).length = n := ⟨_, rfl⟩
        rw [hn3] at LU1 ⊢
        rw [hn4] at LU2 ⊢
        clear hn3 hn4
        have HLU := hid (fun (X : World) (hX : Below w8.heap.size w8 X) => And.intro (LU1.later hX) (LU2.later hX))
        have Q8 := Q7.trans (q8.mono Q7.size)
        have HY8 := hid (HY7.out.trans (q8.mono HY7.out.size))
        have HLT := hid (HLT.out.later q8)
        have HTW := hid (fun (X : World) (hX : Below w8.heap.size w8 X) => And.intro (HTK.out.1.later (Q8.trans (hX.mono Q8.size))) (HTK.out.2.later (Q8.trans (hX.mono Q8.size))))
        have LA := HA.out.later HY8.out
        have LF := HF.out.later HY8.out
        have LT := HLT.out
        have hq8 := Q8.size
        have Q := Below.refl w8.heap.size w8
        clear LU1 LU2 q8 Q7 HLT
        have LA := LA.alloc (.cells #[.slice b3 n3 d3, .slice b4 n4 d4] 30)
        have LF := LF.alloc (.cells #[.slice b3 n3 d3, .slice b4 n4 d4] 30)
        have LT := LT.alloc (.cells #[.slice b3 n3 d3, .slice b4 n4 d4] 30)
        have LU := Has.new w8 30 #[.slice b3 n3 d3, .slice b4 n4 d4]
        have k501 := LU.cell 0 _ rfl
        have k502 := LU.cell 1 _ rfl
        have Q := Q.alloc Q.size (.cells #[.slice b3 n3 d3, .slice b4 n4 d4] 30)
        go_wp2_with fail
        clear k501 k502
        obtain ⟨W501, hW501⟩ : ∃ W501, (w8.alloc (.cells #[.slice b3 n3 d3, .slice b4 n4 d4] 30)) = W501 := ⟨_, rfl⟩
        rw [hW501] at LA LF LT LU Q ⊢
        clear hW501
        generalize w8.heap.size = b501 at *
        have QF := hid (Q8.trans (Q.mono hq8))
        have K1 := HTW.out _ Q
        have K2 := HLU.out _ Q
        have HD1 := hid (fun z : Ext W501 => Ext.atK (declared_any z.w _ _ ta tb (K1.1.later z.below) (K1.2.later z.below) HTL.out))
        have HD2 := hid (fun z : Ext W501 => Ext.atK (rdecl_any z.w _ _ ta tb (K1.1.later z.below) (K1.2.later z.below) HTL.out))
        have HD3 := hid (fun z : Ext W501 => Ext.atK (declared_any z.w _ _ (setN z1) (setN z2) (K2.1.later z.below) (K2.2.later z.below) HUL.out))
        have HD4 := hid (fun z : Ext W501 => Ext.atK (rdecl_any z.w _ _ (setN z1) (setN z2) (K2.1.later z.below) (K2.2.later z.below) HUL.out))
        obtain ⟨e1, he1⟩ : ∃ x : Int, ((declN ta tb : Nat) : Int) = x := ⟨_, rfl⟩
        obtain ⟨e2, he2⟩ : ∃ x : Int, ((declN (setN z1) (setN z2) : Nat) : Int) = x := ⟨_, rfl⟩
        rw [he1] at HD1 HD2
        rw [he2] at HD3 HD4
        have X1 := exp_retG a HW.out.1
        have X2 := rexp_ret a
        have X3 := touch_ret f0 f1
        have X4 := rtouch_ret f0 f1
        have X5 := start_ret xs hxz f0
        have X6 := rstart_ret xs hxz f0
        obtain ⟨e3, he3⟩ : ∃ x : Int, ((50 * nbG a : Nat) : Int) = x := ⟨_, rfl⟩
        obtain ⟨e4, he4⟩ : ∃ x : Int, touchN f0 f1 = x := ⟨_, rfl⟩
        obtain ⟨e5, he5⟩ : ∃ x : Int, startN xs f0 = x := ⟨_, rfl⟩
        rw [he3] at X1 X2
        rw [he4] at X3 X4
        rw [he5] at X5 X6
        unfold wv at X1 X2
        have HX1 := hid X1
        have HX2 := hid X2
        have HX3 := hid X3
        have HX4 := hid X4
        have HX5 := hid X5
        have HX6 := hid X6
        clear X1 X2 X3 X4 X5 X6 he1 he2 he3 he4 he5 K1 K2 Q Q8 hq8
        have k1 : ∀ x : Ext W501, x.w.cell? ⟨w.heap.size, 0, none⟩ = some (.int .u64 (lim a 0)) := fun x => (LA.later x.below).cell 0 _ rfl
        have k2 : ∀ x : Ext W501, x.w.cell? ⟨w.heap.size, 1, none⟩ = some (.int .u64 (lim a 1)) := fun x => (LA.later x.below).cell 1 _ rfl
        have k3 : ∀ x : Ext W501, x.w.cell? ⟨w.heap.size, 2, none⟩ = some (.int .u64 (lim a 2)) := fun x => (LA.later x.below).cell 2 _ rfl
        have k4 : ∀ x : Ext W501, x.w.cell? ⟨w.heap.size, 3, none⟩ = some (.int .u64 (lim a 3)) := fun x => (LA.later x.below).cell 3 _ rfl
        have k5 : ∀ x : Ext W501, x.w.cell? ⟨w.heap.size + 1 + 1 + 1, 0, none⟩ = some (.bool f0) := fun x => (LF.later x.below).cell 0 _ rfl
        have k6 : ∀ x : Ext W501, x.w.cell? ⟨w.heap.size + 1 + 1 + 1, 1, none⟩ = some (.bool f1) := fun x => (LF.later x.below).cell 1 _ rfl
        have k7 : ∀ x : Ext W501, x.w.cell? ⟨gT, 0, none⟩ = some (.slice (uptoK ra rc) m1 rc) := fun x => (LT.later x.below).cell 0 _ rfl
        have k8 : ∀ x : Ext W501, x.w.cell? ⟨gT, 1, none⟩ = some (.slice (uptoK sa sc) m2 sc) := fun x => (LT.later x.below).cell 1 _ rfl
        have k9 : ∀ x : Ext W501, x.w.cell? ⟨b501, 0, none⟩ = some (.slice b3 n3 d3) := fun x => (LU.later x.below).cell 0 _ rfl
        have k10 : ∀ x : Ext W501, x.w.cell? ⟨b501, 1, none⟩ = some (.slice b4 n4 d4) := fun x => (LU.later x.below).cell 1 _ rfl
        clear LA LF LT LU
        try simp only [List.append]
        refine wp_region_quick (C := Grows W501) (by kernel_rfl) (by kernel_rfl) (by kernel_rfl) (grows_refl W501) ?_
        repeat (go_big_quiet_step (first | (with_reducible exact Ret.at HX1.out _) | (with_reducible exact Ret.at HX2.out _) | (with_reducible exact Ret.at HX3.out _) | (with_reducible exact Ret.at HX4.out _) | (with_reducible exact Ret.at HX5.out _) | (with_reducible exact Ret.at HX6.out _) | (with_reducible exact HD1.out _) | (with_reducible exact HD2.out _) | (with_reducible exact HD3.out _) | (with_reducible exact HD4.out _)))
        refine wpQuiet_nil ?_
        rintro _ ⟨xe, rfl⟩
        go_wp2
        go_ret
        exact ⟨rfl, QF.out.trans (xe.below.mono QF.out.size)⟩
theorem tells15_sets (w : World) (a b c : Nat) (ha : W256 a) (hb : W256 b) (hc : W256 c) (n rf : Int) (hn : I64 n) (hrf : I64 rf) (f0 f1 f2 : Bool) (v1 v2 : Value) (z1 z2 : List (Int × Int)) (h1 : RawAt w v1 z1) (h2 : RawAt w v2 z2) (v : Value) (r s : List Ky) (hA : SetsAt w v r s) (sd : ByteArray) (hsd : sd.size ≤ 140737488355328) :
  Calls Tryd.prog 3 #[wv a, wv b, wv c, .int .i64 n, .int .i64 rf, .agg #[.bool f0, .bool f1, .bool f2], .agg #[v1, v2], v, .string sd] w fun e w' => e = .returned (.bool true) ∧ Below w.heap.size w w' := by
 obtain ⟨_, _, _, _, rfl, k1, k2⟩ := hA.shapes
 exact tells15_any w a b c ha hb hc n rf hn hrf f0 f1 f2 v1 v2 z1 z2 h1 h2 _ _ r s k1 k2 sd hsd
end Go.Proofs.YtlihnlkcgiopoaaDoor
