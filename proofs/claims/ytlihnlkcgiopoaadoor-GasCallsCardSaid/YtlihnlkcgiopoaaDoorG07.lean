/- Part. -/
import Derived.Test.YtlihnlkcgiopoaaDoorG06
import Derived.Test.YtlihnlkcgiopoaaDoorRows
import Derived.ProofKit
import Derived.LaidMore
import Derived.OpenShut
import Derived.Stop.Joined
import Derived.ChangeSame
import Derived.Below
import Derived.Laws.IdiomArrays
import Derived.Test.YtlihnlkcgiopoaaDoorG03
import Derived.Deep.Slices
import Derived.ReadAgain
import Derived.Carry
import Derived.Test.YtlihnlkcgiopoaaDoorG05
set_option maxRecDepth 100000
set_option maxHeartbeats 16000000
namespace Go.Proofs.YtlihnlkcgiopoaaDoor
section
open Go Go.RowKit
attribute [local go_sem] Oper.semAt_some Grows wide_fn eq4
theorem zero_bytes {e : Nat} (he : W256 e) (h : ∀ j, j < 32 → byteN e j = 0) : e = 0 := by
 have hk : ∀ k, k ≤ 32 → e % 256 ^ k = 0 := by
  intro k
  induction k with
  | zero => intro _; exact Nat.mod_one _
  | succ k ih =>
   intro hk
   have h1 := ih (by omega)
   have h2 := h k (by omega)
   unfold byteN at h2
   rw [Nat.pow_succ, Nat.mod_mul, h1, h2, Nat.mul_zero]
 have h1 := hk 32 (Nat.le_refl _)
 unfold W256 at he
 rw [Nat.mod_eq_of_lt (by omega)] at h1
 exact h1
theorem byG_zero_all {s : ByteArray} (h : lzG s = s.size) : ∀ k, k < s.size → byG s k = 0 := fun k hk => lzG_zero s (by omega)
theorem bytesOf_byte (a j : Nat) (hj : j < 32) : byG (bytesOf a) j = byteN a (31 - j) := by
 unfold byG bytesOf strOfNums
 simp only [Array.getD_eq_getD_getElem?, List.getElem?_toArray, List.getElem?_map, List.getElem?_range hj, Option.map_some, Option.getD_some]
 have h : byteN a (31 - j) < 256 := by unfold byteN; exact Nat.mod_lt _ (by decide)
 simp only [Int.toNat_natCast, UInt8.toNat_ofNat']
 omega
theorem nbG_pos (e : Nat) (he : W256 e) (h : e ≠ 0) : 0 < nbG e := by
 rcases Nat.eq_zero_or_pos (nbG e) with h0 | h0
 ·exfalso
  unfold nbG at h0
  have hsz := bytesOf_size32 e
  have hle := lzG_le (bytesOf e)
  have hall := byG_zero_all (s := bytesOf e) (by omega)
  refine h (zero_bytes he fun j hj => ?_)
  have := hall (31 - j) (by omega)
  rw [bytesOf_byte e (31 - j) (by omega), show 31 - (31 - j) = j by omega] at this
  exact this
 ·exact h0
theorem rises_walk (m n r x y f a b ca cb la lb i0 i1 u v xx : Int) (ze : Nat → Int) (zb : Bool) (hlo : (if y < x then y else x) = a) (hhi : (if x < y then y else x) = b) (hf0 : 0 ≤ f) (hf1 : f ≤ 1048576) (ha0 : 0 ≤ a) (ha1 : a ≤ 1048576) (d1 : ca ≤ cb) (ca0 : 0 ≤ ca) (ca1 : ca ≤ 1048576) (d2 : la ≤ lb) (d3 : i0 ≤ i1) (d4 : u ≤ v) (d5 : u ≤ f) (d6 : 5 * u ≤ a) (d7 : 0 ≤ u) (e0 : 0 ≤ xx) (e1 : xx ≤ 1600) (e2 : xx.tmod 50 = 0) (e3 : (xx == 0) = zb) (e4 : ((ze 0 == 0) && (ze 1 == 0) && (ze 2 == 0) && (ze 3 == 0)) = zb) (k0 : Ret Tryd.prog 9 #[] (.bool true)) (p1 : Ret Tryd.prog 10 #[.int .i64 m, .int .i64 1048576] (.int .i64 x)) (p2 : Ret Tryd.prog 10 #[.int .i64 n, .int .i64 1048576] (.int .i64 y)) (p3 : Ret Tryd.prog 10 #[.int .i64 r, .int .i64 1048576] (.int .i64 f)) (ex : Ret Tryd.prog 27 #[.agg #[.int .u64 (ze 0), .int .u64 (ze 1), .int .u64 (ze 2), .int .u64 (ze 3)]] (.int .i64 xx)) (c1 : Ret Tryd.prog 11 #[.int .i64 a] (.int .i64 ca)) (c2 : Ret Tryd.prog 11 #[.int .i64 b] (.int .i64 cb)) (h1 : Ret Tryd.prog 13 #[.int .i64 a] (.int .i64 (2 * ca))) (l1 : Ret Tryd.prog 15 #[.int .i64 a] (.int .i64 la)) (l2 : Ret Tryd.prog 15 #[.int .i64 b] (.int .i64 lb)) (n1 : Ret Tryd.prog 17 #[.int .i64 a, .bool false] (.int .i64 i0)) (n2 : Ret Tryd.prog 17 #[.int .i64 a, .bool true] (.int .i64 i1)) (b1 : Ret Tryd.prog 19 #[.int .i64 a, .int .i64 f] (.int .i64 u)) (b2 : Ret Tryd.prog 19 #[.int .i64 b, .int .i64 f] (.int .i64 v)) (b3 : Ret Tryd.prog 19 #[.int .i64 a, .int .i64 (-f)] (.int .i64 0)) (t1 : Ret Tryd.prog 29 #[.bool true, .bool true] (.int .i64 100)) (t2 : Ret Tryd.prog 29 #[.bool false, .bool true] (.int .i64 100)) (t3 : Ret Tryd.prog 29 #[.bool true, .bool false] (.int .i64 2100)) (t4 : Ret Tryd.prog 29 #[.bool false, .bool false] (.int .i64 2600)) :
  Ret Tryd.prog 7 #[.int .i64 m, .int .i64 n, .int .i64 r, .agg #[.int .u64 (ze 0), .int .u64 (ze 1), .int .u64 (ze 2), .int .u64 (ze 3)]] (.bool true) := by
 intro w
 have Hk0 := hid k0
 have Hp1 := hid p1
 have Hp2 := hid p2
 have Hp3 := hid p3
 have Hex := hid ex
 have Hc1 := hid c1
 have Hc2 := hid c2
 have Hh1 := hid h1
 have Hl1 := hid l1
 have Hl2 := hid l2
 have Hn1 := hid n1
 have Hn2 := hid n2
 have Hb1 := hid b1
 have Hb2 := hid b2
 have Hb3 := hid b3
 have Ht1 := hid t1
 have Ht2 := hid t2
 have Ht3 := hid t3
 have Ht4 := hid t4
 clear k0 p1 p2 p3 ex c1 c2 h1 l1 l2 n1 n2 b1 b2 b3 t1 t2 t3 t4
 go_enter Tryd.func7, Tryd.ntmps7
 have LA := Has.new w 24 #[.int .u64 (ze 0), .int .u64 (ze 1), .int .u64 (ze 2), .int .u64 (ze 3)]
 have k1 := LA.cell 0 _ rfl
 have k2 := LA.cell 1 _ rfl
 have k3 := LA.cell 2 _ rfl
 have k4 := LA.cell 3 _ rfl
 have Q := (Below.refl w.heap.size w)
 have Q := Q.alloc Q.size (.cells #[.int .u64 (ze 0), .int .u64 (ze 1), .int .u64 (ze 2), .int .u64 (ze 3)] 24)
 go_wp2_with fail
 clear k1 k2 k3 k4
 obtain ⟨W1, hW1⟩ : ∃ W1, (w.alloc (.cells #[.int .u64 (ze 0), .int .u64 (ze 1), .int .u64 (ze 2), .int .u64 (ze 3)] 24)) = W1 := ⟨_, rfl⟩
 rw [hW1] at LA Q ⊢
 clear hW1
 refine (Hk0.out _).mono ?_
 rintro e v5 ⟨rfl, q⟩
 have LA := LA.later q
 have Q := Q.trans (q.mono Q.size)
 clear q
 have k6 := LA.cell 0 _ rfl
 have k7 := LA.cell 1 _ rfl
 have k8 := LA.cell 2 _ rfl
 have k9 := LA.cell 3 _ rfl
 go_wp2_with fail
 clear k6 k7 k8 k9
 refine (Hp1.out _).mono ?_
 rintro e v10 ⟨rfl, q⟩
 have LA := LA.later q
 have Q := Q.trans (q.mono Q.size)
 clear q
 have k11 := LA.cell 0 _ rfl
 have k12 := LA.cell 1 _ rfl
 have k13 := LA.cell 2 _ rfl
 have k14 := LA.cell 3 _ rfl
 go_wp2_with fail
 clear k11 k12 k13 k14
 refine (Hp2.out _).mono ?_
 rintro e v15 ⟨rfl, q⟩
 have LA := LA.later q
 have Q := Q.trans (q.mono Q.size)
 clear q
 have k16 := LA.cell 0 _ rfl
 have k17 := LA.cell 1 _ rfl
 have k18 := LA.cell 2 _ rfl
 have k19 := LA.cell 3 _ rfl
 go_wp2_with fail
 clear k16 k17 k18 k19
 refine (Hp1.out _).mono ?_
 rintro e v20 ⟨rfl, q⟩
 have LA := LA.later q
 have Q := Q.trans (q.mono Q.size)
 clear q
 have k21 := LA.cell 0 _ rfl
 have k22 := LA.cell 1 _ rfl
 have k23 := LA.cell 2 _ rfl
 have k24 := LA.cell 3 _ rfl
 go_wp2_with fail
 clear k21 k22 k23 k24
 refine (Hp2.out _).mono ?_
 rintro e v25 ⟨rfl, q⟩
 have LA := LA.later q
 have Q := Q.trans (q.mono Q.size)
 clear q
 have k26 := LA.cell 0 _ rfl
 have k27 := LA.cell 1 _ rfl
 have k28 := LA.cell 2 _ rfl
 have k29 := LA.cell 3 _ rfl
 go_wp2_with fail
 clear k26 k27 k28 k29
 refine (Hp3.out _).mono ?_
 rintro e v30 ⟨rfl, q⟩
 have LA := LA.later q
 have Q := Q.trans (q.mono Q.size)
 clear q
 have k31 := LA.cell 0 _ rfl
 have k32 := LA.cell 1 _ rfl
 have k33 := LA.cell 2 _ rfl
 have k34 := LA.cell 3 _ rfl
 go_wp2_with fail
 clear k31 k32 k33 k34
 refine (Hex.out _).mono ?_
 rintro e v35 ⟨rfl, q⟩
 have LA := LA.later q
 have Q := Q.trans (q.mono Q.size)
 clear q
 have k36 := LA.cell 0 _ rfl
 have k37 := LA.cell 1 _ rfl
 have k38 := LA.cell 2 _ rfl
 have k39 := LA.cell 3 _ rfl
 go_wp2_with fail
 clear k36 k37 k38 k39
 refine (Hc1.out _).mono ?_
 rintro e v40 ⟨rfl, q⟩
 have LA := LA.later q
 have Q := Q.trans (q.mono Q.size)
 clear q
 have k41 := LA.cell 0 _ rfl
 have k42 := LA.cell 1 _ rfl
 have k43 := LA.cell 2 _ rfl
 have k44 := LA.cell 3 _ rfl
 go_wp2_with fail
 clear k41 k42 k43 k44
 refine (Hc2.out _).mono ?_
 rintro e v45 ⟨rfl, q⟩
 have LA := LA.later q
 have Q := Q.trans (q.mono Q.size)
 clear q
 have k46 := LA.cell 0 _ rfl
 have k47 := LA.cell 1 _ rfl
 have k48 := LA.cell 2 _ rfl
 have k49 := LA.cell 3 _ rfl
 go_wp2_with fail
 clear k46 k47 k48 k49
 refine (Hh1.out _).mono ?_
 rintro e v50 ⟨rfl, q⟩
 have LA := LA.later q
 have Q := Q.trans (q.mono Q.size)
 clear q
 have k51 := LA.cell 0 _ rfl
 have k52 := LA.cell 1 _ rfl
 have k53 := LA.cell 2 _ rfl
 have k54 := LA.cell 3 _ rfl
 go_wp2_with fail
 clear k51 k52 k53 k54
 refine (Hc1.out _).mono ?_
 rintro e v55 ⟨rfl, q⟩
 have LA := LA.later q
 have Q := Q.trans (q.mono Q.size)
 clear q
 have k56 := LA.cell 0 _ rfl
 have k57 := LA.cell 1 _ rfl
 have k58 := LA.cell 2 _ rfl
 have k59 := LA.cell 3 _ rfl
 go_wp2_with fail
 clear k56 k57 k58 k59
 refine (Hl1.out _).mono ?_
 rintro e v60 ⟨rfl, q⟩
 have LA := LA.later q
 have Q := Q.trans (q.mono Q.size)
 clear q
 have k61 := LA.cell 0 _ rfl
 have k62 := LA.cell 1 _ rfl
 have k63 := LA.cell 2 _ rfl
 have k64 := LA.cell 3 _ rfl
 go_wp2_with fail
 clear k61 k62 k63 k64
 refine (Hl2.out _).mono ?_
 rintro e v65 ⟨rfl, q⟩
 have LA := LA.later q
 have Q := Q.trans (q.mono Q.size)
 clear q
 have k66 := LA.cell 0 _ rfl
 have k67 := LA.cell 1 _ rfl
 have k68 := LA.cell 2 _ rfl
 have k69 := LA.cell 3 _ rfl
 go_wp2_with fail
 clear k66 k67 k68 k69
 refine (Hn1.out _).mono ?_
 rintro e v70 ⟨rfl, q⟩
 have LA := LA.later q
 have Q := Q.trans (q.mono Q.size)
 clear q
 have k71 := LA.cell 0 _ rfl
 have k72 := LA.cell 1 _ rfl
 have k73 := LA.cell 2 _ rfl
 have k74 := LA.cell 3 _ rfl
 go_wp2_with fail
 clear k71 k72 k73 k74
 refine (Hn2.out _).mono ?_
 rintro e v75 ⟨rfl, q⟩
 have LA := LA.later q
 have Q := Q.trans (q.mono Q.size)
 clear q
 have k76 := LA.cell 0 _ rfl
 have k77 := LA.cell 1 _ rfl
 have k78 := LA.cell 2 _ rfl
 have k79 := LA.cell 3 _ rfl
 go_wp2_with fail
 clear k76 k77 k78 k79
 refine (Hb1.out _).mono ?_
 rintro e v80 ⟨rfl, q⟩
 have LA := LA.later q
 have Q := Q.trans (q.mono Q.size)
 clear q
 have k81 := LA.cell 0 _ rfl
 have k82 := LA.cell 1 _ rfl
 have k83 := LA.cell 2 _ rfl
 have k84 := LA.cell 3 _ rfl
 go_wp2_with fail
 clear k81 k82 k83 k84
 refine (Hb2.out _).mono ?_
 rintro e v85 ⟨rfl, q⟩
 have LA := LA.later q
 have Q := Q.trans (q.mono Q.size)
 clear q
 have k86 := LA.cell 0 _ rfl
 have k87 := LA.cell 1 _ rfl
 have k88 := LA.cell 2 _ rfl
 have k89 := LA.cell 3 _ rfl
 go_wp2_with fail
 clear k86 k87 k88 k89
 refine (Hb1.out _).mono ?_
 rintro e v90 ⟨rfl, q⟩
 have LA := LA.later q
 have Q := Q.trans (q.mono Q.size)
 clear q
 have k91 := LA.cell 0 _ rfl
 have k92 := LA.cell 1 _ rfl
 have k93 := LA.cell 2 _ rfl
 have k94 := LA.cell 3 _ rfl
 go_wp2_with fail
 clear k91 k92 k93 k94
 refine (Hb1.out _).mono ?_
 rintro e v95 ⟨rfl, q⟩
 have LA := LA.later q
 have Q := Q.trans (q.mono Q.size)
 clear q
 have k96 := LA.cell 0 _ rfl
 have k97 := LA.cell 1 _ rfl
 have k98 := LA.cell 2 _ rfl
 have k99 := LA.cell 3 _ rfl
 go_wp2_with fail
 clear k96 k97 k98 k99
 refine (Hb3.out _).mono ?_
 rintro e v100 ⟨rfl, q⟩
 have LA := LA.later q
 have Q := Q.trans (q.mono Q.size)
 clear q
 have k101 := LA.cell 0 _ rfl
 have k102 := LA.cell 1 _ rfl
 have k103 := LA.cell 2 _ rfl
 have k104 := LA.cell 3 _ rfl
 go_wp2_with fail
 clear k101 k102 k103 k104
 refine (Ht1.out _).mono ?_
 rintro e v105 ⟨rfl, q⟩
 have LA := LA.later q
 have Q := Q.trans (q.mono Q.size)
 clear q
 have k106 := LA.cell 0 _ rfl
 have k107 := LA.cell 1 _ rfl
 have k108 := LA.cell 2 _ rfl
 have k109 := LA.cell 3 _ rfl
 go_wp2_with fail
 clear k106 k107 k108 k109
 refine (Ht2.out _).mono ?_
 rintro e v110 ⟨rfl, q⟩
 have LA := LA.later q
 have Q := Q.trans (q.mono Q.size)
 clear q
 have k111 := LA.cell 0 _ rfl
 have k112 := LA.cell 1 _ rfl
 have k113 := LA.cell 2 _ rfl
 have k114 := LA.cell 3 _ rfl
 go_wp2_with fail
 clear k111 k112 k113 k114
 refine (Ht1.out _).mono ?_
 rintro e v115 ⟨rfl, q⟩
 have LA := LA.later q
 have Q := Q.trans (q.mono Q.size)
 clear q
 have k116 := LA.cell 0 _ rfl
 have k117 := LA.cell 1 _ rfl
 have k118 := LA.cell 2 _ rfl
 have k119 := LA.cell 3 _ rfl
 go_wp2_with fail
 clear k116 k117 k118 k119
 refine (Ht3.out _).mono ?_
 rintro e v120 ⟨rfl, q⟩
 have LA := LA.later q
 have Q := Q.trans (q.mono Q.size)
 clear q
 have k121 := LA.cell 0 _ rfl
 have k122 := LA.cell 1 _ rfl
 have k123 := LA.cell 2 _ rfl
 have k124 := LA.cell 3 _ rfl
 go_wp2_with fail
 clear k121 k122 k123 k124
 refine (Ht3.out _).mono ?_
 rintro e v125 ⟨rfl, q⟩
 have LA := LA.later q
 have Q := Q.trans (q.mono Q.size)
 clear q
 have k126 := LA.cell 0 _ rfl
 have k127 := LA.cell 1 _ rfl
 have k128 := LA.cell 2 _ rfl
 have k129 := LA.cell 3 _ rfl
 go_wp2_with fail
 clear k126 k127 k128 k129
 refine (Ht4.out _).mono ?_
 rintro e v130 ⟨rfl, q⟩
 have LA := LA.later q
 have Q := Q.trans (q.mono Q.size)
 clear q
 have k131 := LA.cell 0 _ rfl
 have k132 := LA.cell 1 _ rfl
 have k133 := LA.cell 2 _ rfl
 have k134 := LA.cell 3 _ rfl
 go_wp2
 clear k131 k132 k133 k134
 go_ret
 exact ⟨rfl, Q⟩
theorem rises_any (m n r : Int) (hm : I64 m) (hn : I64 n) (hr : I64 r) (e : Nat) (he : W256 e) : Ret Tryd.prog 7 #[.int .i64 m, .int .i64 n, .int .i64 r, wv e] (.bool true) := by
 have p1 := pick_ret m hm 1048576 (by decide) (by decide)
 have p2 := pick_ret n hn 1048576 (by decide) (by decide)
 have p3 := pick_ret r hr 1048576 (by decide) (by decide)
 have g1 := pickN_range m 1048576 (by decide)
 have g2 := pickN_range n 1048576 (by decide)
 have g3 := pickN_range r 1048576 (by decide)
 generalize pickN m 1048576 = x at *
 generalize pickN n 1048576 = y at *
 generalize pickN r 1048576 = f at *
 obtain ⟨a, ha⟩ : ∃ a, (if y < x then y else x) = a := ⟨_, rfl⟩
 obtain ⟨b, hb⟩ : ∃ b, (if x < y then y else x) = b := ⟨_, rfl⟩
 have hab : 0 ≤ a ∧ a ≤ b ∧ b ≤ 1048576 := by rw [← ha, ← hb]; split <;> split <;> omega
 have hx := exp_retG e he
 have hnb := nbG_le e
 have wa : wordsN a = (a + 31) / 32 := by unfold wordsN; rw [manyN_in hab.1 (by omega)]
 have wb : wordsN b = (b + 31) / 32 := by unfold wordsN; rw [manyN_in (by omega) hab.2.2]
 have ba : backN a f = limI f 0 (a / 5) := by unfold backN; rw [if_neg (by omega)]
 have bb : backN b f = limI f 0 (b / 5) := by unfold backN; rw [if_neg (by omega)]
 have bn : backN a (-f) = 0 := by unfold backN limI; rw [if_neg (show ¬ a < 0 by omega)]; split <;> (try split) <;> omega
 have i64a : I64 a := by unfold I64; omega
 have i64b : I64 b := by unfold I64; omega
 have B1 := back_ret a f i64a
 have B2 := back_ret b f i64b
 have B3 := back_ret a (-f) i64a
 rw [bn] at B3
 have hz : (((50 * nbG e : Nat) : Int) == 0) = decide (e = 0) := by
  by_cases h : e = 0
  ·subst h
   rw [show nbG 0 = 0 by decide +kernel]
   rfl
  ·rw [decide_eq_false h]
   have := nbG_pos e he h
   simp; omega
 exact rises_walk m n r x y f a b _ _ _ _ _ _ _ _ _ _ _ ha hb g3.1 (by omega) hab.1 (by omega) (by rw [wa, wb]; omega) (by rw [wa]; omega) (by rw [wa]; omega) (by rw [manyN_in hab.1 (by omega), manyN_in (by omega) hab.2.2]; omega) (by unfold initN; simp; rw [wa]; omega)
  (by rw [ba, bb]; unfold limI; split <;> (try split) <;> (try split) <;> omega) (by rw [ba]; unfold limI; split <;> (try split) <;> omega) (by rw [ba]; unfold limI; split <;> (try split) <;> omega) (by rw [ba]; unfold limI; split <;> (try split) <;> omega)
  (by omega) (by omega) (by rw [Int.tmod_eq_emod_of_nonneg (by omega)]; omega) hz (by have := eqW e 0 he (by unfold W256; decide); simpa only [lim_zero] using this)
  awakeG_ret p1 p2 p3 hx (copy_retG a) (copy_retG b) (Ret.of_eq (hash_retG a) rfl (by congr 1; omega)) (log_retG a) (log_retG b) (init_ret a false) (init_ret a true) B1 B2 B3 (touch_ret true true) (touch_ret false true) (touch_ret true false) (touch_ret false false)
end
section
open Go Go.ChangeShapes Go.WideShapes Go.ChangeAt Go.RowKit
theorem cellsU64 : Tryd.prog.cellsOf 22 = 1 := by kernel_rfl
theorem cellsWord : Tryd.prog.cellsOf 24 = 4 := by kernel_rfl
theorem list4 {α : Type} (l : List α) (h : (⟨l⟩ : Array α).size = 4) : ∃ a b c d, l = [a, b, c, d] := by
 match l, h with
 | [a, b, c, d], _ => exact ⟨a, b, c, d, rfl⟩
theorem u64_of_wf {x : Int} (h : (Lit.int .u64 x).wf = true) : U64 x := by
 have := bounds_u64 h
 unfold U64; omega
theorem word_of (x0 x1 x2 x3 : Int) (h0 : U64 x0) (h1 : U64 x1) (h2 : U64 x2) (h3 : U64 x3) : ∃ n, W256 n ∧ wv n = .agg #[.int .u64 x0, .int .u64 x1, .int .u64 x2, .int .u64 x3] := by
 obtain ⟨z, z0, z1, z2, z3⟩ : ∃ z : Nat → Int, z 0 = x0 ∧ z 1 = x1 ∧ z 2 = x2 ∧ z 3 = x3 := ⟨fun k => if k = 0 then x0 else if k = 1 then x1 else if k = 2 then x2 else x3, rfl, rfl, rfl, rfl⟩
 subst z0 z1 z2 z3
 obtain ⟨g0, g1⟩ := num_lt z h0 h1 h2 h3
 have en : num z = ((num z).toNat : Int) := (Int.toNat_of_nonneg g0).symm
 have e := lim_num z (num z).toNat h0 h1 h2 h3 en
 refine ⟨_, ?_, wv_of e⟩
 unfold W256
 rw [en] at g1
 exact Int.ofNat_lt.1 g1
theorem open_word {H : Type} {enc : TypeId × Value → H} {W : World} {base b : Nat} {sp : Nat → Bool} {held : Bool} {v : Value} {d : DataW H} {ps : List MemPlace}
  (hval : Value.okWide Tryd.prog W .any base 24 v) (hd : DataW.Trod enc Tryd.prog W b sp held 24 v d ps) :
  ∃ n, W256 n ∧ v = wv n ∧ ps = [] ∧ ∀ (W' : World) (b' : Nat) (sp' : Nat → Bool) (held' : Bool), DataW.Trod enc Tryd.prog W' b' sp' held' 24 (wv n) d [] := by
 obtain ⟨cs, rfl, hsz, _⟩ : ∃ cs, v = .agg cs ∧ cs.size = Tryd.prog.cellsOf 24 ∧ Row.okWide Tryd.prog W .any base 24 cs := by
  simpa [Value.okWide, Tryd.underlying24] using hval
 rw [cellsWord] at hsz
 obtain ⟨l⟩ := cs
 obtain ⟨c0, c1, c2, c3, rfl⟩ := list4 l hsz
 obtain ⟨fuel, hf⟩ := hd
 obtain ⟨y0, y1, y2, y3, m, hx, hy0, hy1, hy2, hy3⟩ := trod_array4 Tryd.underlying24 cellsU64 hf
 obtain ⟨x0, e0, rfl, w0⟩ := DataW.trod_int Tryd.underlying22 hy0
 obtain ⟨x1, e1, rfl, w1⟩ := DataW.trod_int Tryd.underlying22 hy1
 obtain ⟨x2, e2, rfl, w2⟩ := DataW.trod_int Tryd.underlying22 hy2
 obtain ⟨x3, e3, rfl, w3⟩ := DataW.trod_int Tryd.underlying22 hy3
 simp at e0 e1 e2 e3
 subst e0 e1 e2 e3
 simp only [Prod.mk.injEq] at hx
 obtain ⟨rfl, rfl⟩ := hx
 obtain ⟨n, hn, hv⟩ := word_of x0 x1 x2 x3 (u64_of_wf w0) (u64_of_wf w1) (u64_of_wf w2) (u64_of_wf w3)
 refine ⟨n, hn, hv.symm, rfl, fun W' b' sp' held' => ?_⟩
 rw [hv]
 exact ⟨2, by simp [DataW.trod, Value.cells, Tryd.underlying24, Tryd.underlying22, cellsWord, cellsU64, w0, w1, w2, w3, show List.range 4 = [0, 1, 2, 3] from rfl]⟩
theorem i64_of_wf {x : Int} (h : (Lit.int .i64 x).wf = true) : I64 x := by
 have := bounds_i64 h
 unfold I64; omega
end
section
open Go Go.ChangeShapes Go.WideShapes Go.ChangeAt Go.RowKit Go.Deep
theorem laidOutAll : laidOutB Tryd.prog = true := by kernel_rfl
theorem trodAll_below {H : Type} {enc : TypeId × Value → H} {W W' : World} (hb : Below W.heap.size W W') : ∀ {ts : List TypeId} {vs : List Value} {ds : List (DataW H)} {ps : List MemPlace},
  (∀ t ∈ ts, Tryd.prog.readableRec t = true ∧ t < Tryd.prog.types.size) → DataW.TrodAll enc Tryd.prog W 0 (fun _ => true) true ts vs ds ps → (∀ x ∈ ps, x.block < W.heap.size) →
  DataW.TrodAll enc Tryd.prog W' 0 (fun b => decide (b < W.heap.size)) true ts vs ds ps
 | [], [], [], _, _, h, _ => h
 | _ :: _, _ :: _, _ :: _, _, ht, ⟨p, q, h1, h2, e⟩, hs =>
  ⟨p, q, Below.trod laidOutAll (ht _ (List.mem_cons.2 (Or.inl rfl))).1 (ht _ (List.mem_cons.2 (Or.inl rfl))).2 h1 hb (fun x hx => hs x (by rw [e]; exact List.mem_append_left _ hx)),
   trodAll_below hb (fun t h => ht t (List.mem_cons.2 (Or.inr h))) h2 (fun x hx => hs x (by rw [e]; exact List.mem_append_right _ hx)), e⟩
theorem post_read {H : Type} {enc : TypeId × Value → H} {f : Func} {s : ChangeSpec} {W W' : World} {args : Array Value} {ds : List (DataW H)} {before : List MemPlace}
  (hW : DataW.Whole enc Tryd.prog f.params.toList s.vars false W args.toList ds [] before) (hvars : s.vars = []) (hft : f.resultTypes = #[4])
  (hfn : s.fn H ds = { results := [.lit (.bool true)], args := ds }) (hA : DataW.TrodAll enc Tryd.prog W 0 (fun _ => true) true f.params.toList args.toList ds before)
  (hts : (f.params.toList.all fun t => Tryd.prog.readableRec t && decide (t < Tryd.prog.types.size)) = true)
  (hb : Below W.heap.size W W') : s.post enc Tryd.prog f false true false false W args (.bool true) W' := by
 have e : (s.fn H (ds ++ [])) = { results := [.lit (.bool true)], args := ds } := by rw [List.append_nil]; exact hfn
 refine ⟨ds, [], before, [], before, [], hW, ?_, ?_, ?_, World.keptBut_mono (fun p hp => absurd hp (by simp)) (hb.frame (fun _ => False)), fun h => by cases h⟩
 ·rw [e, hft]
  exact trodAll_mk1 (shut_bool Tryd.underlying4 _)
 ·rw [e]
  exact trodAll_below hb (fun t ht => by
   have := List.all_eq_true.1 hts t ht
   simpa using this) hA (fun x hx => by simpa using hW.lt x hx)
 ·rw [e, hvars]
  rfl
end
section
open Go Go.RowKit
attribute [local go_sem] Oper.semAt_some Grows wide_fn eq4
def PrOw : Bool → Bool → Bool → Int → Int → Prop
 | false, false, false, p, w => p = 2600 ∧ w = 0
 | false, false, true, p, w => p = 2600 ∧ w = 0
 | false, true, false, p, w => p = 11600 ∧ w = 2300
 | false, true, true, p, w => p = 36600 ∧ w = 2300
 | true, false, false, p, w => p = 100 ∧ w = 0
 | true, false, true, p, w => p = 100 ∧ w = 0
 | true, true, false, p, w => p = 9100 ∧ w = 2300
 | true, true, true, p, w => p = 34100 ∧ w = 2300
theorem prOw (a b c : Bool) : PrOw a b c (callingN a b c) (if b then 2300 else 0) := by cases a <;> cases b <;> cases c <;> exact ⟨rfl, rfl⟩
theorem calls_no (m r s n x y lo hi pr ow A1 P1 B1 Q1 t : Int) (a b c : Bool) (hpo : PrOw a b c pr ow) (hlo : (if y < x then y else x) = lo) (hhi : (if x < y then y else x) = hi) (n0 : 0 ≤ n) (n1 : n ≤ 200000) (lo0 : 0 ≤ lo) (lo1 : lo ≤ 200000) (hi0 : 0 ≤ hi) (hi1 : hi ≤ 200000) (h0 : n < pr) (k0 : Ret Tryd.prog 9 #[] (.bool true)) (p0 : Ret Tryd.prog 10 #[.int .i64 m, .int .i64 200000] (.int .i64 n)) (p1 : Ret Tryd.prog 10 #[.int .i64 r, .int .i64 200000] (.int .i64 x)) (p2 : Ret Tryd.prog 10 #[.int .i64 s, .int .i64 200000] (.int .i64 y)) (o1 : Ret Tryd.prog 23 #[.int .i64 lo] (.agg #[.int .u64 lo, .int .u64 0, .int .u64 0, .int .u64 0])) (o2 : Ret Tryd.prog 23 #[.int .i64 hi] (.agg #[.int .u64 hi, .int .u64 0, .int .u64 0, .int .u64 0])) (c1 : Ret Tryd.prog 24 #[.int .i64 n, .agg #[.int .u64 lo, .int .u64 0, .int .u64 0, .int .u64 0], .bool a, .bool b, .bool c] (.tuple #[.int .i64 0, .int .i64 0, .bool false])) (c2 : Ret Tryd.prog 24 #[.int .i64 n, .agg #[.int .u64 hi, .int .u64 0, .int .u64 0, .int .u64 0], .bool a, .bool b, .bool c] (.tuple #[.int .i64 0, .int .i64 0, .bool false])) (c3 : Ret Tryd.prog 24 #[.int .i64 n, .agg #[.int .u64 0, .int .u64 0, .int .u64 0, .int .u64 0], .bool a, .bool b, .bool c] (.tuple #[.int .i64 0, .int .i64 0, .bool false])) :
  Ret Tryd.prog 5 #[.int .i64 m, .int .i64 r, .int .i64 s, .agg #[.bool a, .bool b, .bool c]] (.bool true) := by
 intro w
 have Hk0 := hid k0
 have Hp0 := hid p0
 have Hp1 := hid p1
 have Hp2 := hid p2
 have Ho1 := hid o1
 have Ho2 := hid o2
 have Hc1 := hid c1
 have Hc2 := hid c2
 have Hc3 := hid c3
 clear k0 p0 p1 p2 o1 o2 c1 c2 c3
 go_enter Tryd.func5, Tryd.ntmps5
 have LF := Has.new w 25 #[.bool a, .bool b, .bool c]
 have k1 := LF.cell 0 _ rfl
 have k2 := LF.cell 1 _ rfl
 have k3 := LF.cell 2 _ rfl
 have Q := (Below.refl w.heap.size w)
 have Q := Q.alloc Q.size (.cells #[.bool a, .bool b, .bool c] 25)
 go_wp2_with fail
 clear k1 k2 k3
 obtain ⟨W1, hW1⟩ : ∃ W1, (w.alloc (.cells #[.bool a, .bool b, .bool c] 25)) = W1 := ⟨_, rfl⟩
 rw [hW1] at LF Q ⊢
 clear hW1
 refine (Hk0.out _).mono ?_
 rintro e v4 ⟨rfl, q⟩
 have LF := LF.later q
 have Q := Q.trans (q.mono Q.size)
 clear q
 have k5 := LF.cell 0 _ rfl
 have k6 := LF.cell 1 _ rfl
 have k7 := LF.cell 2 _ rfl
 go_wp2_with fail
 clear k5 k6 k7
 refine (Hp0.out _).mono ?_
 rintro e v8 ⟨rfl, q⟩
 have LF := LF.later q
 have Q := Q.trans (q.mono Q.size)
 clear q
 have k9 := LF.cell 0 _ rfl
 have k10 := LF.cell 1 _ rfl
 have k11 := LF.cell 2 _ rfl
 go_wp2_with fail
 clear k9 k10 k11
 refine (Hp1.out _).mono ?_
 rintro e v12 ⟨rfl, q⟩
 have LF := LF.later q
 have Q := Q.trans (q.mono Q.size)
 clear q
 have k13 := LF.cell 0 _ rfl
 have k14 := LF.cell 1 _ rfl
 have k15 := LF.cell 2 _ rfl
 go_wp2_with fail
 clear k13 k14 k15
 refine (Hp2.out _).mono ?_
 rintro e v16 ⟨rfl, q⟩
 have LF := LF.later q
 have Q := Q.trans (q.mono Q.size)
 clear q
 have k17 := LF.cell 0 _ rfl
 have k18 := LF.cell 1 _ rfl
 have k19 := LF.cell 2 _ rfl
 go_wp2_with fail
 clear k17 k18 k19
 refine (Hp1.out _).mono ?_
 rintro e v20 ⟨rfl, q⟩
 have LF := LF.later q
 have Q := Q.trans (q.mono Q.size)
 clear q
 have k21 := LF.cell 0 _ rfl
 have k22 := LF.cell 1 _ rfl
 have k23 := LF.cell 2 _ rfl
 go_wp2_with fail
 clear k21 k22 k23
 refine (Hp2.out _).mono ?_
 rintro e v24 ⟨rfl, q⟩
 have LF := LF.later q
 have Q := Q.trans (q.mono Q.size)
 clear q
 have k25 := LF.cell 0 _ rfl
 have k26 := LF.cell 1 _ rfl
 have k27 := LF.cell 2 _ rfl
 go_wp2_with fail
 clear k25 k26 k27
 have k28 : ∀ x : Ext v24, x.w.cell? ⟨w.heap.size, 0, none⟩ = some (.bool a) := fun x => (LF.later x.below).cell 0 _ rfl
 have k29 : ∀ x : Ext v24, x.w.cell? ⟨w.heap.size, 1, none⟩ = some (.bool b) := fun x => (LF.later x.below).cell 1 _ rfl
 have k30 : ∀ x : Ext v24, x.w.cell? ⟨w.heap.size, 2, none⟩ = some (.bool c) := fun x => (LF.later x.below).cell 2 _ rfl
 refine wp_region_quick (C := Grows v24) (by kernel_rfl) (by kernel_rfl) (by kernel_rfl) (grows_refl v24) ?_
 repeat (go_big_quiet_step (first | (with_reducible exact Ret.at Ho1.out _) | (with_reducible exact Ret.at Hc1.out _)))
 refine wpQuiet_nil ?_
 rintro _ ⟨x31, rfl⟩
 clear k28 k29 k30
 have LF := LF.later x31.below
 have Q := Q.trans (x31.below.mono Q.size)
 have k32 := LF.cell 0 _ rfl
 have k33 := LF.cell 1 _ rfl
 have k34 := LF.cell 2 _ rfl
 go_wp2_with fail
 clear k32 k33 k34
 have k35 : ∀ x : Ext x31.w, x.w.cell? ⟨w.heap.size, 0, none⟩ = some (.bool a) := fun x => (LF.later x.below).cell 0 _ rfl
 have k36 : ∀ x : Ext x31.w, x.w.cell? ⟨w.heap.size, 1, none⟩ = some (.bool b) := fun x => (LF.later x.below).cell 1 _ rfl
 have k37 : ∀ x : Ext x31.w, x.w.cell? ⟨w.heap.size, 2, none⟩ = some (.bool c) := fun x => (LF.later x.below).cell 2 _ rfl
 refine wp_region_quick (C := Grows x31.w) (by kernel_rfl) (by kernel_rfl) (by kernel_rfl) (grows_refl x31.w) ?_
 repeat (go_big_quiet_step (first | (with_reducible exact Ret.at Ho2.out _) | (with_reducible exact Ret.at Hc2.out _)))
 refine wpQuiet_nil ?_
 rintro _ ⟨x38, rfl⟩
 clear k35 k36 k37
 have LF := LF.later x38.below
 have Q := Q.trans (x38.below.mono Q.size)
 have k39 := LF.cell 0 _ rfl
 have k40 := LF.cell 1 _ rfl
 have k41 := LF.cell 2 _ rfl
 go_wp2_with fail
 clear k39 k40 k41
 refine (Hc3.out _).mono ?_
 rintro e v42 ⟨rfl, q⟩
 have LF := LF.later q
 have Q := Q.trans (q.mono Q.size)
 clear q
 clear Hk0 Hp0 Hp1 Hp2 Ho1 Ho2 Hc1 Hc2 Hc3
 cases a <;> cases b <;> cases c
 all_goals
  obtain ⟨rfl, rfl⟩ := hpo
  have k43 := LF.cell 0 _ rfl
  have k44 := LF.cell 1 _ rfl
  have k45 := LF.cell 2 _ rfl
  go_wp2
  clear k43 k44 k45
  all_goals go_ret
  all_goals first | exact ⟨rfl, Q⟩ | exact ⟨by simp; omega, Q⟩
theorem calls_yes (m r s n x y lo hi pr ow A1 P1 B1 Q1 t : Int) (a b c : Bool) (hpo : PrOw a b c pr ow) (hlo : (if y < x then y else x) = lo) (hhi : (if x < y then y else x) = hi) (n0 : 0 ≤ n) (n1 : n ≤ 200000) (lo0 : 0 ≤ lo) (lo1 : lo ≤ 200000) (hi0 : 0 ≤ hi) (hi1 : hi ≤ 200000) (h0 : pr ≤ n) (d1 : A1 ≤ n) (d2 : B1 ≤ n) (d3 : P1 ≤ Q1) (d4 : A1 - pr = t) (d5 : P1 - ow = t) (d6 : P1 ≤ lo + ow) (b1 : 0 ≤ A1) (b2 : 0 ≤ P1) (b3 : P1 ≤ 300000) (b4 : 0 ≤ B1) (b5 : 0 ≤ Q1) (b6 : Q1 ≤ 300000) (d8 : Q1 = hi + ow ∨ Q1 - ow = n - pr - (n - pr) / 64) (k0 : Ret Tryd.prog 9 #[] (.bool true)) (p0 : Ret Tryd.prog 10 #[.int .i64 m, .int .i64 200000] (.int .i64 n)) (p1 : Ret Tryd.prog 10 #[.int .i64 r, .int .i64 200000] (.int .i64 x)) (p2 : Ret Tryd.prog 10 #[.int .i64 s, .int .i64 200000] (.int .i64 y)) (o1 : Ret Tryd.prog 23 #[.int .i64 lo] (.agg #[.int .u64 lo, .int .u64 0, .int .u64 0, .int .u64 0])) (o2 : Ret Tryd.prog 23 #[.int .i64 hi] (.agg #[.int .u64 hi, .int .u64 0, .int .u64 0, .int .u64 0])) (c1 : Ret Tryd.prog 24 #[.int .i64 n, .agg #[.int .u64 lo, .int .u64 0, .int .u64 0, .int .u64 0], .bool a, .bool b, .bool c] (.tuple #[.int .i64 A1, .int .i64 P1, .bool true])) (c2 : Ret Tryd.prog 24 #[.int .i64 n, .agg #[.int .u64 hi, .int .u64 0, .int .u64 0, .int .u64 0], .bool a, .bool b, .bool c] (.tuple #[.int .i64 B1, .int .i64 Q1, .bool true])) (c3 : Ret Tryd.prog 24 #[.int .i64 n, .agg #[.int .u64 0, .int .u64 0, .int .u64 0, .int .u64 0], .bool a, .bool b, .bool c] (.tuple #[.int .i64 pr, .int .i64 ow, .bool true])) :
  Ret Tryd.prog 5 #[.int .i64 m, .int .i64 r, .int .i64 s, .agg #[.bool a, .bool b, .bool c]] (.bool true) := by
 intro w
 have Hk0 := hid k0
 have Hp0 := hid p0
 have Hp1 := hid p1
 have Hp2 := hid p2
 have Ho1 := hid o1
 have Ho2 := hid o2
 have Hc1 := hid c1
 have Hc2 := hid c2
 have Hc3 := hid c3
 clear k0 p0 p1 p2 o1 o2 c1 c2 c3
 go_enter Tryd.func5, Tryd.ntmps5
 have LF := Has.new w 25 #[.bool a, .bool b, .bool c]
 have k1 := LF.cell 0 _ rfl
 have k2 := LF.cell 1 _ rfl
 have k3 := LF.cell 2 _ rfl
 have Q := (Below.refl w.heap.size w)
 have Q := Q.alloc Q.size (.cells #[.bool a, .bool b, .bool c] 25)
 go_wp2_with fail
 clear k1 k2 k3
 obtain ⟨W1, hW1⟩ : ∃ W1, (w.alloc (.cells #[.bool a, .bool b, .bool c] 25)) = W1 := ⟨_, rfl⟩
 rw [hW1] at LF Q ⊢
 clear hW1
 refine (Hk0.out _).mono ?_
 rintro e v4 ⟨rfl, q⟩
 have LF := LF.later q
 have Q := Q.trans (q.mono Q.size)
 clear q
 have k5 := LF.cell 0 _ rfl
 have k6 := LF.cell 1 _ rfl
 have k7 := LF.cell 2 _ rfl
 go_wp2_with fail
 clear k5 k6 k7
 refine (Hp0.out _).mono ?_
 rintro e v8 ⟨rfl, q⟩
 have LF := LF.later q
 have Q := Q.trans (q.mono Q.size)
 clear q
 have k9 := LF.cell 0 _ rfl
 have k10 := LF.cell 1 _ rfl
 have k11 := LF.cell 2 _ rfl
 go_wp2_with fail
 clear k9 k10 k11
 refine (Hp1.out _).mono ?_
 rintro e v12 ⟨rfl, q⟩
 have LF := LF.later q
 have Q := Q.trans (q.mono Q.size)
 clear q
 have k13 := LF.cell 0 _ rfl
 have k14 := LF.cell 1 _ rfl
 have k15 := LF.cell 2 _ rfl
 go_wp2_with fail
 clear k13 k14 k15
 refine (Hp2.out _).mono ?_
 rintro e v16 ⟨rfl, q⟩
 have LF := LF.later q
 have Q := Q.trans (q.mono Q.size)
 clear q
 have k17 := LF.cell 0 _ rfl
 have k18 := LF.cell 1 _ rfl
 have k19 := LF.cell 2 _ rfl
 go_wp2_with fail
 clear k17 k18 k19
 refine (Hp1.out _).mono ?_
 rintro e v20 ⟨rfl, q⟩
 have LF := LF.later q
 have Q := Q.trans (q.mono Q.size)
 clear q
 have k21 := LF.cell 0 _ rfl
 have k22 := LF.cell 1 _ rfl
 have k23 := LF.cell 2 _ rfl
 go_wp2_with fail
 clear k21 k22 k23
 refine (Hp2.out _).mono ?_
 rintro e v24 ⟨rfl, q⟩
 have LF := LF.later q
 have Q := Q.trans (q.mono Q.size)
 clear q
 have k25 := LF.cell 0 _ rfl
 have k26 := LF.cell 1 _ rfl
 have k27 := LF.cell 2 _ rfl
 go_wp2_with fail
 clear k25 k26 k27
 have k28 : ∀ x : Ext v24, x.w.cell? ⟨w.heap.size, 0, none⟩ = some (.bool a) := fun x => (LF.later x.below).cell 0 _ rfl
 have k29 : ∀ x : Ext v24, x.w.cell? ⟨w.heap.size, 1, none⟩ = some (.bool b) := fun x => (LF.later x.below).cell 1 _ rfl
 have k30 : ∀ x : Ext v24, x.w.cell? ⟨w.heap.size, 2, none⟩ = some (.bool c) := fun x => (LF.later x.below).cell 2 _ rfl
 refine wp_region_quick (C := Grows v24) (by kernel_rfl) (by kernel_rfl) (by kernel_rfl) (grows_refl v24) ?_
 repeat (go_big_quiet_step (first | (with_reducible exact Ret.at Ho1.out _) | (with_reducible exact Ret.at Hc1.out _)))
 refine wpQuiet_nil ?_
 rintro _ ⟨x31, rfl⟩
 clear k28 k29 k30
 have LF := LF.later x31.below
 have Q := Q.trans (x31.below.mono Q.size)
 have k32 := LF.cell 0 _ rfl
 have k33 := LF.cell 1 _ rfl
 have k34 := LF.cell 2 _ rfl
 go_wp2_with fail
 clear k32 k33 k34
 have k35 : ∀ x : Ext x31.w, x.w.cell? ⟨w.heap.size, 0, none⟩ = some (.bool a) := fun x => (LF.later x.below).cell 0 _ rfl
 have k36 : ∀ x : Ext x31.w, x.w.cell? ⟨w.heap.size, 1, none⟩ = some (.bool b) := fun x => (LF.later x.below).cell 1 _ rfl
 have k37 : ∀ x : Ext x31.w, x.w.cell? ⟨w.heap.size, 2, none⟩ = some (.bool c) := fun x => (LF.later x.below).cell 2 _ rfl
 refine wp_region_quick (C := Grows x31.w) (by kernel_rfl) (by kernel_rfl) (by kernel_rfl) (grows_refl x31.w) ?_
 repeat (go_big_quiet_step (first | (with_reducible exact Ret.at Ho2.out _) | (with_reducible exact Ret.at Hc2.out _)))
 refine wpQuiet_nil ?_
 rintro _ ⟨x38, rfl⟩
 clear k35 k36 k37
 have LF := LF.later x38.below
 have Q := Q.trans (x38.below.mono Q.size)
 have k39 := LF.cell 0 _ rfl
 have k40 := LF.cell 1 _ rfl
 have k41 := LF.cell 2 _ rfl
 go_wp2_with fail
 clear k39 k40 k41
 refine (Hc3.out _).mono ?_
 rintro e v42 ⟨rfl, q⟩
 have LF := LF.later q
 have Q := Q.trans (q.mono Q.size)
 clear q
 clear Hk0 Hp0 Hp1 Hp2 Ho1 Ho2 Hc1 Hc2 Hc3
 cases a <;> cases b <;> cases c
 all_goals
  obtain ⟨rfl, rfl⟩ := hpo
  have k43 := LF.cell 0 _ rfl
  have k44 := LF.cell 1 _ rfl
  have k45 := LF.cell 2 _ rfl
  go_wp2
  clear k43 k44 k45
  all_goals go_ret
  all_goals first | exact ⟨rfl, Q⟩ | exact ⟨by simp; omega, Q⟩
theorem mostN_toNat (r : Int) (h : 0 ≤ r) : ((mostN r).toNat : Int) = r - r / 64 := by unfold mostN; omega
theorem calls_any (m r s : Int) (hm : I64 m) (hr : I64 r) (hs : I64 s) (a b c : Bool) : Ret Tryd.prog 5 #[.int .i64 m, .int .i64 r, .int .i64 s, .agg #[.bool a, .bool b, .bool c]] (.bool true) := by
 have p0 := pick_ret m hm 200000 (by decide) (by decide)
 have p1 := pick_ret r hr 200000 (by decide) (by decide)
 have p2 := pick_ret s hs 200000 (by decide) (by decide)
 have g0 := pickN_range m 200000 (by decide)
 have g1 := pickN_range r 200000 (by decide)
 have g2 := pickN_range s 200000 (by decide)
 generalize pickN m 200000 = n at *
 generalize pickN r 200000 = x at *
 generalize pickN s 200000 = y at *
 obtain ⟨lo, hlo⟩ : ∃ lo, (if y < x then y else x) = lo := ⟨_, rfl⟩
 obtain ⟨hi, hhi⟩ : ∃ hi, (if x < y then y else x) = hi := ⟨_, rfl⟩
 have hb : 0 ≤ lo ∧ lo ≤ hi ∧ hi ≤ 200000 := by rw [← hlo, ← hhi]; split <;> split <;> omega
 obtain ⟨l, hl⟩ : ∃ l : Nat, lo = (l : Int) := ⟨lo.toNat, by omega⟩
 obtain ⟨h, hh⟩ : ∃ h : Nat, hi = (h : Int) := ⟨hi.toNat, by omega⟩
 have po := prOw a b c
 have gp := callingN_range a b c
 have wl : W256 l := by unfold W256; omega
 have wh : W256 h := by unfold W256; omega
 have w0 : W256 0 := by unfold W256; decide
 have C1 := call_ret n l wl a b c
 have C2 := call_ret n h wh a b c
 have C3 := call_ret n 0 w0 a b c
 rw [wv_natG l (by omega)] at C1
 rw [wv_natG h (by omega)] at C2
 rw [wv_natG 0 (by decide)] at C3
 have o1 := ofRG l (by omega)
 have o2 := ofRG h (by omega)
 unfold callV at C1 C2 C3
 rw [← hl] at C1 o1
 rw [← hh] at C2 o2
 generalize callingN a b c = pr at *
 obtain ⟨ow, how⟩ : ∃ ow : Int, (if b then 2300 else 0) = ow := ⟨_, rfl⟩
 have hw : 0 ≤ ow ∧ ow ≤ 2300 := by rw [← how]; split <;> omega
 rw [how] at po C1 C2 C3
 by_cases hn : n < pr
 ·rw [if_pos (.inl hn)] at C1 C2 C3
  exact calls_no m r s n x y lo hi pr ow 0 0 0 0 0 a b c po hlo hhi g0.1 (by omega) hb.1 (by omega) (by omega) hb.2.2 hn awakeG_ret p0 p1 p2 o1 o2 C1 C2 C3
 ·rw [if_neg (by omega)] at C1 C2 C3
  have mt := mostN_toNat (n - pr) (by omega)
  unfold ownN at C1 C2 C3
  generalize (mostN (n - pr)).toNat = mm at *
  rw [show ((min 0 mm : Nat) : Int) = 0 by omega, Int.add_zero, Int.zero_add] at C3
  exact calls_yes m r s n x y lo hi pr ow (pr + ((min l mm : Nat) : Int)) (((min l mm : Nat) : Int) + ow) (pr + ((min h mm : Nat) : Int)) (((min h mm : Nat) : Int) + ow) ((min l mm : Nat) : Int) a b c po hlo hhi g0.1 (by omega) hb.1 (by omega) (by omega) hb.2.2 (by omega) (by omega) (by omega) (by omega) (by omega) (by omega) (by omega) (by omega) (by omega) (by omega) (by omega) (by omega) (by omega) (by omega)
   awakeG_ret p0 p1 p2 o1 o2 C1 C2 C3
end
section
open Go Go.ChangeShapes Go.WideShapes Go.ChangeAt Go.RowKit Go.Deep
set_option maxRecDepth 100000
theorem cellsBoolF : Tryd.prog.cellsOf 4 = 1 := by kernel_rfl
theorem cellsFlags : Tryd.prog.cellsOf 25 = 3 := by kernel_rfl
theorem trod_three {H : Type} {enc : TypeId × Value → H} {P : Program} {w : World} {base : Nat} {spare : Nat → Bool} {held : Bool} {t e : TypeId} {fuel : Nat} {cs : List Value} {x : DataW H × List MemPlace} (ht : P.underlying t = some (.array 3 e)) (hce : P.cellsOf e = 1) (hcs : cs.length = 3)
  (h : DataW.trod enc P w base spare held fuel t cs = some x) :
  ∃ c0 c1 c2 y0 y1 y2 n, cs = [c0, c1, c2] ∧ DataW.trod enc P w base spare held n e [c0] = some y0 ∧ DataW.trod enc P w base spare held n e [c1] = some y1 ∧ DataW.trod enc P w base spare held n e [c2] = some y2 := by
 match cs, hcs with
 | [c0, c1, c2], _ =>
  cases fuel with
  | zero => simp [DataW.trod] at h
  | succ n =>
   unfold DataW.trod at h
   rw [ht] at h
   have r3 : List.range 3 = [0, 1, 2] := rfl
   simp [r3, hce] at h
   obtain ⟨_, h⟩ := h
   cases h0 : DataW.trod enc P w base spare held n e [c0] with
   | none => simp [h0] at h
   | some y0 =>
    cases h1 : DataW.trod enc P w base spare held n e [c1] with
    | none => simp [h0, h1] at h
    | some y1 =>
     cases h2 : DataW.trod enc P w base spare held n e [c2] with
     | none => simp [h0, h1, h2] at h
     | some y2 => exact ⟨c0, c1, c2, y0, y1, y2, n, rfl, h0, h1, h2⟩
theorem open_flags {H : Type} {enc : TypeId × Value → H} {W : World} {base b : Nat} {sp : Nat → Bool} {held : Bool} {v : Value} {d : DataW H} {ps : List MemPlace}
  (hval : Value.okWide Tryd.prog W .any base 25 v) (hd : DataW.Trod enc Tryd.prog W b sp held 25 v d ps) : ∃ p q r, v = .agg #[.bool p, .bool q, .bool r] := by
 obtain ⟨cs, rfl, hsz, _⟩ : ∃ cs, v = .agg cs ∧ cs.size = Tryd.prog.cellsOf 25 ∧ Row.okWide Tryd.prog W .any base 25 cs := by
  simpa [Value.okWide, Tryd.underlying25] using hval
 rw [cellsFlags] at hsz
 obtain ⟨l⟩ := cs
 obtain ⟨fuel, hf⟩ := hd
 obtain ⟨c0, c1, c2, y0, y1, y2, n', e, t0, t1, t2⟩ := trod_three (cs := l) Tryd.underlying25 cellsBoolF hsz hf
 subst e
 obtain ⟨x0, e0, rfl⟩ := DataW.trod_bool Tryd.underlying4 t0
 obtain ⟨x1, e1, rfl⟩ := DataW.trod_bool Tryd.underlying4 t1
 obtain ⟨x2, e2, rfl⟩ := DataW.trod_bool Tryd.underlying4 t2
 simp at e0 e1 e2
 subst e0 e1 e2
 exact ⟨x0, x1, x2, rfl⟩
end
end Go.Proofs.YtlihnlkcgiopoaaDoor
