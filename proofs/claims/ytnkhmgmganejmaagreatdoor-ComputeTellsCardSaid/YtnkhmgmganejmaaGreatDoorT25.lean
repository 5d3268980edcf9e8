/- Part. -/
import Derived.Test.YtnkhmgmganejmaaGreatDoorT23
import Derived.Test.YtnkhmgmganejmaaGreatDoorT06
import Derived.Test.YtnkhmgmganejmaaGreatDoorT12
set_option maxRecDepth 100000
set_option maxHeartbeats 16000000
namespace Go.Proofs.YtnkhmgmganejmaaGreatDoor
section
open Go Go.RowKit
attribute [local go_sem] Oper.semAt_some Grows
theorem add_less (x y n : Nat) (hx : x < n) (hy : y < n) (hn : W256 n) : (if decide (wcmp (wmod (x + y)) x < 0) = true ∨ n ≤ wmod (x + y) then wsub (wmod (x + y)) n else wmod (x + y)) = (x + y) % n := by
 unfold W256 at hn
 have hc : (wcmp (wmod (x + y)) x < 0) ↔ wmod (x + y) < x := by unfold wcmp; split <;> (try split) <;> simp <;> omega
 simp only [decide_eq_true_eq, hc]
 unfold wsub wmod
 by_cases ho : 115792089237316195423570985008687907853269984665640564039457584007913129639936 ≤ x + y
 ·have e : (x + y) % 115792089237316195423570985008687907853269984665640564039457584007913129639936 = x + y - 115792089237316195423570985008687907853269984665640564039457584007913129639936 := by omega
  rw [e, if_pos (.inl (by omega)), Nat.mod_eq_sub_mod (show n ≤ x + y by omega), Nat.mod_eq_of_lt (show x + y - n < n by omega)]
  omega
 ·have e : (x + y) % 115792089237316195423570985008687907853269984665640564039457584007913129639936 = x + y := by omega
  rw [e]
  by_cases h : n ≤ x + y
  ·rw [if_pos (.inr h), Nat.mod_eq_sub_mod h, Nat.mod_eq_of_lt (show x + y - n < n by omega)]
   omega
  ·rw [if_neg (by omega), Nat.mod_eq_of_lt (by omega)]
theorem refAddmod_zero (a b n : Nat) (hn : Ret Tryz.prog 76 #[.agg #[.int .u64 (lim n 0), .int .u64 (lim n 1), .int .u64 (lim n 2), .int .u64 (lim n 3)]] (.bool true)) :
  Ret Tryz.prog 44 #[.agg #[.int .u64 (lim a 0), .int .u64 (lim a 1), .int .u64 (lim a 2), .int .u64 (lim a 3)], .agg #[.int .u64 (lim b 0), .int .u64 (lim b 1), .int .u64 (lim b 2), .int .u64 (lim b 3)], .agg #[.int .u64 (lim n 0), .int .u64 (lim n 1), .int .u64 (lim n 2), .int .u64 (lim n 3)]] (.agg #[.int .u64 (lim n 0), .int .u64 (lim n 1), .int .u64 (lim n 2), .int .u64 (lim n 3)]) := by
 intro w
 have Hhn := hid hn
 clear hn
 go_enter Tryz.func44, Tryz.ntmps44
 obtain ⟨⟨⟨k25, k26, k27, k28⟩, ⟨k29, k30, k31, k32⟩, ⟨k33, k34, k35, k36⟩, ⟨k37, k38, k39, k40⟩⟩, W1, hW1, LX, LY, LN, LR, Q⟩ := pwwwz w 24 (lim a) (lim b) (lim n)
 go_wp2_with fail
 clear k25 k26 k27 k28 k29 k30 k31 k32 k33 k34 k35 k36 k37 k38 k39 k40
 rw [hW1.out]
 clear hW1
 refine (Hhn.out _).mono ?_
 rintro e v41 ⟨rfl, q⟩
 have LX := LX.later q
 have LY := LY.later q
 have LN := LN.later q
 have LR := LR.later q
 have Q := Q.trans (q.mono Q.size)
 clear q
 obtain ⟨r0, r1, r2, r3⟩ := c4 LR
 obtain ⟨z0, z1, z2, z3⟩ := f4 LR
 obtain ⟨k42, k43, k44, k45⟩ := c4 LX
 obtain ⟨k46, k47, k48, k49⟩ := c4 LY
 obtain ⟨k50, k51, k52, k53⟩ := c4 LN
 have HR := hid ((s4 LR (lim n)))
 have HQ := hid ((q4 (w.heap.size + 1 + 1 + 1) Q (by omega) (lim n)))
 clear Q LX LY LN LR
 go_wp2
 refine bodyPost_ret (results_word (m := lim n) rfl rfl HR.out) rfl ⟨rfl, HQ.out⟩
theorem refAddmod_some (a b n x y s r : Nat) (c : Int) (u : Bool) (hn : Ret Tryz.prog 76 #[.agg #[.int .u64 (lim n 0), .int .u64 (lim n 1), .int .u64 (lim n 2), .int .u64 (lim n 3)]] (.bool false)) (h1 : Ret Tryz.prog 42 #[.agg #[.int .u64 (lim a 0), .int .u64 (lim a 1), .int .u64 (lim a 2), .int .u64 (lim a 3)], .agg #[.int .u64 (lim n 0), .int .u64 (lim n 1), .int .u64 (lim n 2), .int .u64 (lim n 3)]] (.agg #[.int .u64 (lim x 0), .int .u64 (lim x 1), .int .u64 (lim x 2), .int .u64 (lim x 3)])) (h2 : Ret Tryz.prog 42 #[.agg #[.int .u64 (lim b 0), .int .u64 (lim b 1), .int .u64 (lim b 2), .int .u64 (lim b 3)], .agg #[.int .u64 (lim n 0), .int .u64 (lim n 1), .int .u64 (lim n 2), .int .u64 (lim n 3)]] (.agg #[.int .u64 (lim y 0), .int .u64 (lim y 1), .int .u64 (lim y 2), .int .u64 (lim y 3)])) (h3 : Ret Tryz.prog 37 #[.agg #[.int .u64 (lim x 0), .int .u64 (lim x 1), .int .u64 (lim x 2), .int .u64 (lim x 3)], .agg #[.int .u64 (lim y 0), .int .u64 (lim y 1), .int .u64 (lim y 2), .int .u64 (lim y 3)]] (.agg #[.int .u64 (lim s 0), .int .u64 (lim s 1), .int .u64 (lim s 2), .int .u64 (lim s 3)])) (h4 : Ret Tryz.prog 49 #[.agg #[.int .u64 (lim s 0), .int .u64 (lim s 1), .int .u64 (lim s 2), .int .u64 (lim s 3)], .agg #[.int .u64 (lim x 0), .int .u64 (lim x 1), .int .u64 (lim x 2), .int .u64 (lim x 3)]] (.int .i64 c)) (h5 : Ret Tryz.prog 81 #[.agg #[.int .u64 (lim s 0), .int .u64 (lim s 1), .int .u64 (lim s 2), .int .u64 (lim s 3)], .bool (decide (c < 0)), .agg #[.int .u64 (lim n 0), .int .u64 (lim n 1), .int .u64 (lim n 2), .int .u64 (lim n 3)]] (.tuple #[.agg #[.int .u64 (lim r 0), .int .u64 (lim r 1), .int .u64 (lim r 2), .int .u64 (lim r 3)], .bool u])) :
  Ret Tryz.prog 44 #[.agg #[.int .u64 (lim a 0), .int .u64 (lim a 1), .int .u64 (lim a 2), .int .u64 (lim a 3)], .agg #[.int .u64 (lim b 0), .int .u64 (lim b 1), .int .u64 (lim b 2), .int .u64 (lim b 3)], .agg #[.int .u64 (lim n 0), .int .u64 (lim n 1), .int .u64 (lim n 2), .int .u64 (lim n 3)]] (.agg #[.int .u64 (lim r 0), .int .u64 (lim r 1), .int .u64 (lim r 2), .int .u64 (lim r 3)]) := by
 intro w
 have Hhn := hid hn
 have Hh1 := hid h1
 have Hh2 := hid h2
 have Hh3 := hid h3
 have Hh4 := hid h4
 have Hh5 := hid h5
 clear hn h1 h2 h3 h4 h5
 go_enter Tryz.func44, Tryz.ntmps44
 obtain ⟨⟨⟨k25, k26, k27, k28⟩, ⟨k29, k30, k31, k32⟩, ⟨k33, k34, k35, k36⟩, ⟨k37, k38, k39, k40⟩⟩, W1, hW1, LX, LY, LN, LR, Q⟩ := pwwwz w 24 (lim a) (lim b) (lim n)
 go_wp2_with fail
 clear k25 k26 k27 k28 k29 k30 k31 k32 k33 k34 k35 k36 k37 k38 k39 k40
 rw [hW1.out]
 clear hW1
 refine (Hhn.out _).mono ?_
 rintro e v41 ⟨rfl, q⟩
 have LX := LX.later q
 have LY := LY.later q
 have LN := LN.later q
 have LR := LR.later q
 have Q := Q.trans (q.mono Q.size)
 clear q
 obtain ⟨k42, k43, k44, k45⟩ := c4 LX
 obtain ⟨k46, k47, k48, k49⟩ := c4 LY
 obtain ⟨k50, k51, k52, k53⟩ := c4 LN
 obtain ⟨k54, k55, k56, k57⟩ := c4 LR
 go_wp2_with fail
 clear k42 k43 k44 k45 k46 k47 k48 k49 k50 k51 k52 k53 k54 k55 k56 k57
 refine (Hh1.out _).mono ?_
 rintro e v58 ⟨rfl, q⟩
 have LX := LX.later q
 have LY := LY.later q
 have LN := LN.later q
 have LR := LR.later q
 have Q := Q.trans (q.mono Q.size)
 clear q
 obtain ⟨k59, k60, k61, k62⟩ := c4 LX
 obtain ⟨k63, k64, k65, k66⟩ := c4 LY
 obtain ⟨k67, k68, k69, k70⟩ := c4 LN
 obtain ⟨k71, k72, k73, k74⟩ := c4 LR
 have LX := LX.alloc (.cells (w4 (lim x)) 24)
 have LY := LY.alloc (.cells (w4 (lim x)) 24)
 have LN := LN.alloc (.cells (w4 (lim x)) 24)
 have LR := LR.alloc (.cells (w4 (lim x)) 24)
 have LP := Has.new v58 24 (w4 (lim x))
 obtain ⟨k75, k76, k77, k78⟩ := c4 LX
 obtain ⟨k79, k80, k81, k82⟩ := c4 LY
 obtain ⟨k83, k84, k85, k86⟩ := c4 LN
 obtain ⟨k87, k88, k89, k90⟩ := c4 LR
 obtain ⟨k91, k92, k93, k94⟩ := c4 LP
 have Q := Q.alloc Q.size (.cells (w4 (lim x)) 24)
 go_wp2_with fail
 clear k59 k60 k61 k62 k63 k64 k65 k66 k67 k68 k69 k70 k71 k72 k73 k74 k75 k76 k77 k78 k79 k80 k81 k82 k83 k84 k85 k86 k87 k88 k89 k90 k91 k92 k93 k94
 obtain ⟨W2, hW2⟩ : ∃ W2, (v58.alloc (.cells (w4 (lim x)) 24)) = W2 := ⟨_, rfl⟩
 rw [hW2] at LX LY LN LR LP Q ⊢
 clear hW2
 generalize v58.heap.size = b2 at *
 refine (Hh2.out _).mono ?_
 rintro e v95 ⟨rfl, q⟩
 have LX := LX.later q
 have LY := LY.later q
 have LN := LN.later q
 have LR := LR.later q
 have LP := LP.later q
 have Q := Q.trans (q.mono Q.size)
 clear q
 obtain ⟨k96, k97, k98, k99⟩ := c4 LX
 obtain ⟨k100, k101, k102, k103⟩ := c4 LY
 obtain ⟨k104, k105, k106, k107⟩ := c4 LN
 obtain ⟨k108, k109, k110, k111⟩ := c4 LR
 obtain ⟨k112, k113, k114, k115⟩ := c4 LP
 have LX := LX.alloc (.cells (w4 (lim y)) 24)
 have LY := LY.alloc (.cells (w4 (lim y)) 24)
 have LN := LN.alloc (.cells (w4 (lim y)) 24)
 have LR := LR.alloc (.cells (w4 (lim y)) 24)
 have LP := LP.alloc (.cells (w4 (lim y)) 24)
 have LO := Has.new v95 24 (w4 (lim y))
 obtain ⟨k116, k117, k118, k119⟩ := c4 LX
 obtain ⟨k120, k121, k122, k123⟩ := c4 LY
 obtain ⟨k124, k125, k126, k127⟩ := c4 LN
 obtain ⟨k128, k129, k130, k131⟩ := c4 LR
 obtain ⟨k132, k133, k134, k135⟩ := c4 LP
 obtain ⟨k136, k137, k138, k139⟩ := c4 LO
 have Q := Q.alloc Q.size (.cells (w4 (lim y)) 24)
 go_wp2_with fail
 clear k96 k97 k98 k99 k100 k101 k102 k103 k104 k105 k106 k107 k108 k109 k110 k111 k112 k113 k114 k115 k116 k117 k118 k119 k120 k121 k122 k123 k124 k125 k126 k127 k128 k129 k130 k131 k132 k133 k134 k135 k136 k137 k138 k139
 obtain ⟨W3, hW3⟩ : ∃ W3, (v95.alloc (.cells (w4 (lim y)) 24)) = W3 := ⟨_, rfl⟩
 rw [hW3] at LX LY LN LR LP LO Q ⊢
 clear hW3
 generalize v95.heap.size = b3 at *
 refine (Hh3.out _).mono ?_
 rintro e v140 ⟨rfl, q⟩
 have LX := LX.later q
 have LY := LY.later q
 have LN := LN.later q
 have LR := LR.later q
 have LP := LP.later q
 have LO := LO.later q
 have Q := Q.trans (q.mono Q.size)
 clear q
 clear LX
 clear LY
 clear LO
 obtain ⟨k141, k142, k143, k144⟩ := c4 LN
 obtain ⟨k145, k146, k147, k148⟩ := c4 LR
 obtain ⟨k149, k150, k151, k152⟩ := c4 LP
 have LN := LN.alloc (.cells (w4 (lim s)) 24)
 have LR := LR.alloc (.cells (w4 (lim s)) 24)
 have LP := LP.alloc (.cells (w4 (lim s)) 24)
 have LS := Has.new v140 24 (w4 (lim s))
 obtain ⟨k153, k154, k155, k156⟩ := c4 LN
 obtain ⟨k157, k158, k159, k160⟩ := c4 LR
 obtain ⟨k161, k162, k163, k164⟩ := c4 LP
 obtain ⟨k165, k166, k167, k168⟩ := c4 LS
 have Q := Q.alloc Q.size (.cells (w4 (lim s)) 24)
 go_wp2_with fail
 clear k141 k142 k143 k144 k145 k146 k147 k148 k149 k150 k151 k152 k153 k154 k155 k156 k157 k158 k159 k160 k161 k162 k163 k164 k165 k166 k167 k168
 obtain ⟨W4, hW4⟩ : ∃ W4, (v140.alloc (.cells (w4 (lim s)) 24)) = W4 := ⟨_, rfl⟩
 rw [hW4] at LN LR LP LS Q ⊢
 clear hW4
 generalize v140.heap.size = b4 at *
 refine wp_region_ghost [some (.agg #[.int .u64 (lim s 0), .int .u64 (lim s 1), .int .u64 (lim s 2), .int .u64 (lim s 3)]), some (.agg #[.int .u64 (lim s 0), .int .u64 (lim s 1), .int .u64 (lim s 2), .int .u64 (lim s 3)]), some (.agg #[.int .u64 (lim x 0), .int .u64 (lim x 1), .int .u64 (lim x 2), .int .u64 (lim x 3)]), some (.int .i64 c), some (.bool (decide (c < 0))), some (.agg #[.int .u64 (lim n 0), .int .u64 (lim n 1), .int .u64 (lim n 2), .int .u64 (lim n 3)]), some (.tuple #[.agg #[.int .u64 (lim r 0), .int .u64 (lim r 1), .int .u64 (lim r 2), .int .u64 (lim r 3)], .bool u]), some (.tuple #[.agg #[.int .u64 (lim r 0), .int .u64 (lim r 1), .int .u64 (lim r 2), .int .u64 (lim r 3)], .bool u]), some (.agg #[.int .u64 (lim r 0), .int .u64 (lim r 1), .int .u64 (lim r 2), .int .u64 (lim r 3)]), some (.bool u), none, none, some (.bool u)] [[], [], [], [1, 2], [1, 2, 3], [], [0, 1, 2, 3, 4, 5], [0, 1, 2, 3, 4, 5, 6], [0, 1, 2, 3, 4, 5, 6, 7], [0, 1, 2, 3, 4, 5, 6, 7], [], [0, 1, 2, 3, 4, 5, 6, 7, 8, 10], [0, 1, 2, 3, 4, 5, 6, 7, 8, 9, 10, 11]] (fun f g w' => Below W4.heap.size W4 w' ∧ (f 10 = true → ∃ B, g 10 = .pointer (some ⟨B, 0, none⟩) ∧ W4.heap.size ≤ B ∧ Has w' B 24 (cellsIf (f 11) #[.int .u64 (lim r 0), .int .u64 (lim r 1), .int .u64 (lim r 2), .int .u64 (lim r 3)] #[.int .u64 0, .int .u64 0, .int .u64 0, .int .u64 0])))
  (by kernel_rfl) (by kernel_rfl) (by kernel_rfl) ?_ ?_ ?_ ?_
 ·rintro f g wa wb ⟨h1, h2⟩ hb
  exact ⟨h1.trans (hb.mono h1.size), fun h => let ⟨B, e, hB, hL⟩ := h2 h; ⟨B, e, hB, hL.later hb⟩⟩
 ·intro f f' g g' wa h
  have ha := h 10 rfl
  have hs := h 11 rfl
  simp only [ha.1, ha.2, hs.1]
  exact id
 ·exact ⟨(Below.refl _ _).drew, by simp⟩
 rintro f g y169 ⟨h1, h2⟩ Dn
 have LN := LN.later h1
 have LR := LR.later h1
 have LP := LP.later h1
 have LS := LS.later h1
 obtain ⟨k170, k171, k172, k173⟩ := c4 LN
 obtain ⟨k174, k175, k176, k177⟩ := c4 LR
 obtain ⟨k178, k179, k180, k181⟩ := c4 LP
 obtain ⟨k182, k183, k184, k185⟩ := c4 LS
 refine GW.known _ rfl (fun hd hf => ?_) ?_
 ·go_wp2
  exact ⟨rfl, rfl, Below.refl _ _⟩
 simp only [Act.put, sT, sS, sZ]
 refine GW.known _ rfl (fun hd hf => ?_) ?_
 ·go_wp2
  exact ⟨rfl, rfl, Below.refl _ _⟩
 simp only [Act.put, sT, sS, sZ]
 refine GW.known _ rfl (fun hd hf => ?_) ?_
 ·go_wp2
  exact ⟨rfl, rfl, Below.refl _ _⟩
 simp only [Act.put, sT, sS, sZ]
 refine GW.known _ rfl (fun hd hf => ?_) ?_
 ·go_wp2_with fail
  refine (Hh4.out _).mono ?_
  rintro e u ⟨rfl, hb⟩
  go_wp2
  exact ⟨rfl, rfl, hb⟩
 simp only [Act.put, sT, sS, sZ]
 refine GW.known _ rfl (fun hd hf => ?_) ?_
 ·go_wp2
  exact ⟨rfl, rfl, Below.refl _ _⟩
 simp only [Act.put, sT, sS, sZ]
 refine GW.known _ rfl (fun hd hf => ?_) ?_
 ·go_wp2
  exact ⟨rfl, rfl, Below.refl _ _⟩
 simp only [Act.put, sT, sS, sZ]
 refine GW.known _ rfl (fun hd hf => ?_) ?_
 ·go_wp2_with fail
  refine (Hh5.out _).mono ?_
  rintro e u ⟨rfl, hb⟩
  go_wp2
  exact ⟨rfl, rfl, hb⟩
 simp only [Act.put, sT, sS, sZ]
 refine GW.known _ rfl (fun hd hf => ?_) ?_
 ·go_wp2
  exact ⟨rfl, rfl, Below.refl _ _⟩
 simp only [Act.put, sT, sS, sZ]
 refine GW.known _ rfl (fun hd hf => ?_) ?_
 ·go_wp2
  exact ⟨rfl, rfl, Below.refl _ _⟩
 simp only [Act.put, sT, sS, sZ]
 refine GW.known _ rfl (fun hd hf => ?_) ?_
 ·go_wp2
  exact ⟨rfl, rfl, Below.refl _ _⟩
 simp only [Act.put, sT, sS, sZ]
 refine GW.open rfl (fun hd hf => ?_) ?_
 ·have fs : f 11 = false := by
   cases h : f 11 with
   | false => rfl
   | true => have := Dn 11 h 10 (by decide); rw [hf] at this; cases this
  have fu : upd f 10 true 11 = false := (upd_ne f true (show (11 : Nat) ≠ 10 by decide)).trans fs
  go_wp2
  refine ⟨rfl, h1.alloc h1.size _, fun _ => ⟨_, rfl, h1.size, ?_⟩⟩
  show Has _ _ 24 (cellsIf (upd f 10 true 11) #[.int .u64 (lim r 0), .int .u64 (lim r 1), .int .u64 (lim r 2), .int .u64 (lim r 3)] #[.int .u64 0, .int .u64 0, .int .u64 0, .int .u64 0])
  rw [fu, cellsIf_false]
  exact Has.new _ _ _
 simp only [Act.put, sT, sS, sZ]
 refine GW.open rfl (fun hd hf => ?_) ?_
 ·obtain ⟨B, eB, hB, LB⟩ := h2 (hd 10 (by decide))
  rw [hf, cellsIf_false] at LB
  rw [eB]
  obtain ⟨c0, c1, c2, c3⟩ := c4 LB
  obtain ⟨z0, z1, z2, z3⟩ := f4 LB
  go_wp2
  refine ⟨rfl, ((((h1.setCell (p := ⟨B, 0, none⟩) hB (.int .u64 (lim r 0))).setCell (p := ⟨B, 1, none⟩) hB (.int .u64 (lim r 1))).setCell (p := ⟨B, 2, none⟩) hB (.int .u64 (lim r 2))).setCell (p := ⟨B, 3, none⟩) hB (.int .u64 (lim r 3))), fun _ => ⟨B, eB, hB, ?_⟩⟩
  show Has _ B 24 (cellsIf (upd f 11 true 11) #[.int .u64 (lim r 0), .int .u64 (lim r 1), .int .u64 (lim r 2), .int .u64 (lim r 3)] #[.int .u64 0, .int .u64 0, .int .u64 0, .int .u64 0])
  rw [upd_self, cellsIf_true]
  exact (s4 LB (lim r))
 simp only [Act.put, sT, sS, sZ]
 refine GW.known _ rfl (fun hd hf => ?_) ?_
 ·go_wp2
  exact ⟨rfl, rfl, Below.refl _ _⟩
 simp only [Act.put, sT, sS, sZ]
 refine GW.nil (fun hall => ?_)
 obtain ⟨b169, eB, hB, LT⟩ := h2 (hall 10 (by omega))
 rw [hall 11 (by omega), cellsIf_true] at LT
 have Q := Q.trans (h1.mono Q.size)
 clear h2 Dn hall k170 k171 k172 k173 k174 k175 k176 k177 k178 k179 k180 k181 k182 k183 k184 k185
 rw [eB]
 clear eB hB h1
 obtain ⟨r0, r1, r2, r3⟩ := c4 LR
 obtain ⟨z0, z1, z2, z3⟩ := f4 LR
 obtain ⟨k186, k187, k188, k189⟩ := c4 LN
 obtain ⟨k190, k191, k192, k193⟩ := c4 LP
 obtain ⟨k194, k195, k196, k197⟩ := c4 LS
 obtain ⟨k198, k199, k200, k201⟩ := c4 LT
 have HR := hid ((s4 LR (lim r)))
 have HQ := hid ((q4 (w.heap.size + 1 + 1 + 1) Q (by omega) (lim r)))
 clear Q LN LR LP LS LT
 go_wp2
 refine bodyPost_ret (results_word (m := lim r) rfl rfl HR.out) rfl ⟨rfl, HQ.out⟩
theorem refAddmod_ret (a b n : Nat) (ha : W256 a) (hb : W256 b) (hn : W256 n) : Ret Tryz.prog 44 #[wv a, wv b, wv n] (wv (if n = 0 then 0 else (a + b) % n)) := by
 have h0 := refNone_ret n hn
 by_cases h : n = 0
 ·rw [decide_eq_true h] at h0
  rw [if_pos h]
  conv => rhs; rw [← h]
  exact refAddmod_zero a b n h0
 ·rw [decide_eq_false h] at h0
  have hp : 0 < n := Nat.pos_of_ne_zero h
  have hx := Nat.mod_lt a hp
  have hy := Nat.mod_lt b hp
  have wx : W256 (a % n) := Nat.lt_trans hx hn
  have wy : W256 (b % n) := Nat.lt_trans hy hn
  have ws : W256 (wmod (a % n + b % n)) := Nat.mod_lt _ (by decide)
  have h1 := refMod_ret a n ha hn
  have h2 := refMod_ret b n hb hn
  rw [if_neg h] at h1 h2
  have h5 := refLess_ret (wmod (a % n + b % n)) n (decide (wcmp (wmod (a % n + b % n)) (a % n) < 0)) ws hn
  rw [add_less _ _ _ hx hy hn, ← Nat.add_mod] at h5
  rw [if_neg h]
  exact refAddmod_some a b n (a % n) (b % n) (wmod (a % n + b % n)) ((a + b) % n) _ _ h0 h1 h2 (refAdd_ret _ _ wx wy) (refCmp_ret _ _ ws wx) h5
theorem refMulmod_zero (a b n : Nat) (hn : Ret Tryz.prog 76 #[.agg #[.int .u64 (lim n 0), .int .u64 (lim n 1), .int .u64 (lim n 2), .int .u64 (lim n 3)]] (.bool true)) :
  Ret Tryz.prog 45 #[.agg #[.int .u64 (lim a 0), .int .u64 (lim a 1), .int .u64 (lim a 2), .int .u64 (lim a 3)], .agg #[.int .u64 (lim b 0), .int .u64 (lim b 1), .int .u64 (lim b 2), .int .u64 (lim b 3)], .agg #[.int .u64 (lim n 0), .int .u64 (lim n 1), .int .u64 (lim n 2), .int .u64 (lim n 3)]] (.agg #[.int .u64 (lim n 0), .int .u64 (lim n 1), .int .u64 (lim n 2), .int .u64 (lim n 3)]) := by
 intro w
 have Hhn := hid hn
 clear hn
 go_enter Tryz.func45, Tryz.ntmps45
 obtain ⟨⟨⟨k25, k26, k27, k28⟩, ⟨k29, k30, k31, k32⟩, ⟨k33, k34, k35, k36⟩, ⟨k37, k38, k39, k40⟩⟩, W1, hW1, LX, LY, LN, LR, Q⟩ := pwwwz w 24 (lim a) (lim b) (lim n)
 go_wp2_with fail
 clear k25 k26 k27 k28 k29 k30 k31 k32 k33 k34 k35 k36 k37 k38 k39 k40
 rw [hW1.out]
 clear hW1
 refine (Hhn.out _).mono ?_
 rintro e v41 ⟨rfl, q⟩
 have LX := LX.later q
 have LY := LY.later q
 have LN := LN.later q
 have LR := LR.later q
 have Q := Q.trans (q.mono Q.size)
 clear q
 obtain ⟨r0, r1, r2, r3⟩ := c4 LR
 obtain ⟨z0, z1, z2, z3⟩ := f4 LR
 obtain ⟨k42, k43, k44, k45⟩ := c4 LX
 obtain ⟨k46, k47, k48, k49⟩ := c4 LY
 obtain ⟨k50, k51, k52, k53⟩ := c4 LN
 have HR := hid ((s4 LR (lim n)))
 have HQ := hid ((q4 (w.heap.size + 1 + 1 + 1) Q (by omega) (lim n)))
 clear Q LX LY LN LR
 go_wp2
 refine bodyPost_ret (results_word (m := lim n) rfl rfl HR.out) rfl ⟨rfl, HQ.out⟩
theorem refMulmod_some (a b n x : Nat) (R D S : Nat → Nat) (C : Nat → Int) (E F : Nat → Bool) (hn : Ret Tryz.prog 76 #[.agg #[.int .u64 (lim n 0), .int .u64 (lim n 1), .int .u64 (lim n 2), .int .u64 (lim n 3)]] (.bool false)) (h1 : Ret Tryz.prog 42 #[.agg #[.int .u64 (lim a 0), .int .u64 (lim a 1), .int .u64 (lim a 2), .int .u64 (lim a 3)], .agg #[.int .u64 (lim n 0), .int .u64 (lim n 1), .int .u64 (lim n 2), .int .u64 (lim n 3)]] (.agg #[.int .u64 (lim x 0), .int .u64 (lim x 1), .int .u64 (lim x 2), .int .u64 (lim x 3)])) (hd : ∀ k, k < 256 → Ret Tryz.prog 83 #[.agg #[.int .u64 (lim (R (k + 1)) 0), .int .u64 (lim (R (k + 1)) 1), .int .u64 (lim (R (k + 1)) 2), .int .u64 (lim (R (k + 1)) 3)], .bool false, .agg #[.int .u64 (lim n 0), .int .u64 (lim n 1), .int .u64 (lim n 2), .int .u64 (lim n 3)]] (.tuple #[.agg #[.int .u64 (lim (D k) 0), .int .u64 (lim (D k) 1), .int .u64 (lim (D k) 2), .int .u64 (lim (D k) 3)], .bool (E k)])) (hk : ∀ k, k < 256 → bt b k = 0 → D k = R k) (ha : ∀ k, k < 256 → bt b k = 1 → Ret Tryz.prog 37 #[.agg #[.int .u64 (lim (D k) 0), .int .u64 (lim (D k) 1), .int .u64 (lim (D k) 2), .int .u64 (lim (D k) 3)], .agg #[.int .u64 (lim x 0), .int .u64 (lim x 1), .int .u64 (lim x 2), .int .u64 (lim x 3)]] (.agg #[.int .u64 (lim (S k) 0), .int .u64 (lim (S k) 1), .int .u64 (lim (S k) 2), .int .u64 (lim (S k) 3)])) (hc : ∀ k, k < 256 → bt b k = 1 → Ret Tryz.prog 49 #[.agg #[.int .u64 (lim (S k) 0), .int .u64 (lim (S k) 1), .int .u64 (lim (S k) 2), .int .u64 (lim (S k) 3)], .agg #[.int .u64 (lim (D k) 0), .int .u64 (lim (D k) 1), .int .u64 (lim (D k) 2), .int .u64 (lim (D k) 3)]] (.int .i64 (C k))) (hl : ∀ k, k < 256 → bt b k = 1 → Ret Tryz.prog 81 #[.agg #[.int .u64 (lim (S k) 0), .int .u64 (lim (S k) 1), .int .u64 (lim (S k) 2), .int .u64 (lim (S k) 3)], .bool (decide (C k < 0)), .agg #[.int .u64 (lim n 0), .int .u64 (lim n 1), .int .u64 (lim n 2), .int .u64 (lim n 3)]] (.tuple #[.agg #[.int .u64 (lim (R k) 0), .int .u64 (lim (R k) 1), .int .u64 (lim (R k) 2), .int .u64 (lim (R k) 3)], .bool (F k)])) (ht : ∀ j, lim (R 256) j = 0) :
  Ret Tryz.prog 45 #[.agg #[.int .u64 (lim a 0), .int .u64 (lim a 1), .int .u64 (lim a 2), .int .u64 (lim a 3)], .agg #[.int .u64 (lim b 0), .int .u64 (lim b 1), .int .u64 (lim b 2), .int .u64 (lim b 3)], .agg #[.int .u64 (lim n 0), .int .u64 (lim n 1), .int .u64 (lim n 2), .int .u64 (lim n 3)]] (.agg #[.int .u64 (lim (R 0) 0), .int .u64 (lim (R 0) 1), .int .u64 (lim (R 0) 2), .int .u64 (lim (R 0) 3)]) := by
 intro w
 have HD := hid hd
 have HK := hid hk
 have HA := hid ha
 have HC := hid hc
 have HL := hid hl
 have HT0 := hid ht
 have HB := hid (bits_any b)
 unfold wv at HB
 clear hd hk ha hc hl ht
 have Hhn := hid hn
 have Hh1 := hid h1
 clear hn h1
 go_enter Tryz.func45, Tryz.ntmps45
 obtain ⟨⟨⟨k25, k26, k27, k28⟩, ⟨k29, k30, k31, k32⟩, ⟨k33, k34, k35, k36⟩, ⟨k37, k38, k39, k40⟩⟩, W1, hW1, LX, LY, LN, LR, Q⟩ := pwwwz w 24 (lim a) (lim b) (lim n)
 go_wp2_with fail
 clear k25 k26 k27 k28 k29 k30 k31 k32 k33 k34 k35 k36 k37 k38 k39 k40
 rw [hW1.out]
 clear hW1
 refine (Hhn.out _).mono ?_
 rintro e v41 ⟨rfl, q⟩
 have LX := LX.later q
 have LY := LY.later q
 have LN := LN.later q
 have LR := LR.later q
 have Q := Q.trans (q.mono Q.size)
 clear q
 obtain ⟨k42, k43, k44, k45⟩ := c4 LX
 obtain ⟨k46, k47, k48, k49⟩ := c4 LY
 obtain ⟨k50, k51, k52, k53⟩ := c4 LN
 obtain ⟨k54, k55, k56, k57⟩ := c4 LR
 go_wp2_with fail
 clear k42 k43 k44 k45 k46 k47 k48 k49 k50 k51 k52 k53 k54 k55 k56 k57
 refine (Hh1.out _).mono ?_
 rintro e v58 ⟨rfl, q⟩
 have LX := LX.later q
 have LY := LY.later q
 have LN := LN.later q
 have LR := LR.later q
 have Q := Q.trans (q.mono Q.size)
 clear q
 clear LX
 obtain ⟨k59, k60, k61, k62⟩ := c4 LY
 obtain ⟨k63, k64, k65, k66⟩ := c4 LN
 obtain ⟨k67, k68, k69, k70⟩ := c4 LR
 have LY := LY.alloc (.cells (w4 (lim x)) 24)
 have LN := LN.alloc (.cells (w4 (lim x)) 24)
 have LR := LR.alloc (.cells (w4 (lim x)) 24)
 have LP := Has.new v58 24 (w4 (lim x))
 obtain ⟨k71, k72, k73, k74⟩ := c4 LY
 obtain ⟨k75, k76, k77, k78⟩ := c4 LN
 obtain ⟨k79, k80, k81, k82⟩ := c4 LR
 obtain ⟨k83, k84, k85, k86⟩ := c4 LP
 have Q := Q.alloc Q.size (.cells (w4 (lim x)) 24)
 go_wp2_with fail
 clear k59 k60 k61 k62 k63 k64 k65 k66 k67 k68 k69 k70 k71 k72 k73 k74 k75 k76 k77 k78 k79 k80 k81 k82 k83 k84 k85 k86
 obtain ⟨W2, hW2⟩ : ∃ W2, (v58.alloc (.cells (w4 (lim x)) 24)) = W2 := ⟨_, rfl⟩
 rw [hW2] at LY LN LR LP Q ⊢
 clear hW2
 generalize v58.heap.size = b2 at *
 refine (HB.out _).mono ?_
 rintro e v87 ⟨g, cap, rfl, hg, hI, q⟩
 have LY := LY.later q
 have LN := LN.later q
 have LR := LR.later q
 have LP := LP.later q
 have Q := Q.trans (q.mono Q.size)
 clear q
 clear LY
 clear hg HB
 have aN := LN.lt
 have aR := LR.lt
 have aP := LP.lt
 have aI := hI.lt
 have aQ := Q.size
 have LN := LN.alloc (.cells z4 24)
 have LR := LR.alloc (.cells z4 24)
 have LP := LP.alloc (.cells z4 24)
 have hI := hI.alloc (.cells z4 24)
 have LS := Has.new v87 24 z4
 have Q := Q.alloc Q.size (.cells z4 24)
 go_wp2
 obtain ⟨W3, hW3⟩ : ∃ W3, v87.alloc (.cells z4 24) = W3 := ⟨_, rfl⟩
 rw [hW3] at LN LR LP LS hI Q ⊢
 clear hW3
 generalize v87.heap.size = c at *
 go_loopw [10] (fun i wr => ∃ (k : Nat) (z : Int), k ≤ 256 ∧ z = (k : Int) - 1 ∧ i = .int .i64 z ∧ IntsAt wr g 256 (fun j => (bt b j : Int)) ∧ Has wr (w.heap.size + 1 + 1) 24 #[.int .u64 (lim n 0), .int .u64 (lim n 1), .int .u64 (lim n 2), .int .u64 (lim n 3)] ∧ Has wr (w.heap.size + 1 + 1 + 1) 24 #[.int .u64 0, .int .u64 0, .int .u64 0, .int .u64 0] ∧ Has wr (b2) 24 #[.int .u64 (lim x 0), .int .u64 (lim x 1), .int .u64 (lim x 2), .int .u64 (lim x 3)] ∧ Has wr (c) 24 #[.int .u64 (lim (R k) 0), .int .u64 (lim (R k) 1), .int .u64 (lim (R k) 2), .int .u64 (lim (R k) 3)] ∧ Below w.heap.size w wr) (fun i _ => (intOf i + 1).toNat)
 case atStart => exact ⟨256, 255, by omega, by omega, rfl, hI, LN, LR, LP, by rw [HT0.out 0, HT0.out 1, HT0.out 2, HT0.out 3]; exact LS, Q⟩
 case round =>
  obtain ⟨k, z, hk, hz, rfl, hI, LN, LR, LP, LS, Q⟩ := hrel
  clear HT0
  by_cases hk0 : k = 0
  ·obtain rfl : z = -1 := by omega
   subst hk0
   obtain ⟨c0, c1, c2, c3⟩ := c4 LS
   obtain ⟨r0, r1, r2, r3⟩ := c4 LR
   have z0 := LR.frozen 0
   have z1 := LR.frozen 1
   have z2 := LR.frozen 2
   have z3 := LR.frozen 3
   have hRb : w.heap.size ≤ w.heap.size + 1 + 1 + 1 := by omega
   have HR := hid (s4 LR (lim (R 0)))
   have HQ := hid ((((Q.setCell (p := ⟨w.heap.size + 1 + 1 + 1, 0, none⟩) hRb (.int .u64 (lim (R 0) 0))).setCell (p := ⟨w.heap.size + 1 + 1 + 1, 1, none⟩) hRb (.int .u64 (lim (R 0) 1))).setCell (p := ⟨w.heap.size + 1 + 1 + 1, 2, none⟩) hRb (.int .u64 (lim (R 0) 2))).setCell (p := ⟨w.heap.size + 1 + 1 + 1, 3, none⟩) hRb (.int .u64 (lim (R 0) 3)))
   clear Q LN LR LP LS hI hk hz HD HK HA HC HL aN aR aP aI aQ
   go_wp2
   refine bodyPost_ret (results_word (m := lim (R 0)) rfl rfl HR.out) rfl ⟨rfl, HQ.out⟩
  ·obtain ⟨m, rfl⟩ : ∃ m, k = m + 1 := ⟨k - 1, by omega⟩
   obtain rfl : z = (m : Int) := by omega
   have hm0 : (0 : Int) ≤ (m : Int) := by omega
   have hm1 : (m : Int) < 256 := by omega
   have hm : m < 256 := by omega
   have HMm := hid hm
   have Hd := hid (HD.out m hm)
   have sN : w.heap.size + 1 + 1 ≠ c := by omega
   have sR : w.heap.size + 1 + 1 + 1 ≠ c := by omega
   have sP : b2 ≠ c := by omega
   have gs : g ≠ c := by omega
   have hwc : w.heap.size ≤ c := by omega
   have hb2 : bt b m = 0 ∨ bt b m = 1 := by have := bt_lt b m; omega
   clear hk0 hz hk hm HD aN aR aP aI aQ
   rcases hb2 with hbit | hbit
   ·have H4 := HK.out m HMm.out hbit
    rw [H4] at Hd
    clear H4
    clear HK HA HC HL
    obtain ⟨cS0, cS1, cS2, cS3⟩ := c4 LS
    obtain ⟨cN0, cN1, cN2, cN3⟩ := c4 LN
    go_wp2_with fail
    refine (Hd.out _).mono ?_
    rintro e v1 ⟨rfl, q⟩
    clear cS0 cS1 cS2 cS3 cN0 cN1 cN2 cN3 Hd
    have hI := hI.later q
    have LN := LN.later q
    have LR := LR.later q
    have LP := LP.later q
    have LS := LS.later q
    have Q := Q.trans (q.mono Q.size)
    clear q
    obtain ⟨d0, d1, d2, d3⟩ := c4 LS
    obtain ⟨f0, f1, f2, f3⟩ := f4 LS
    have hI := ((((hI.other (p := ⟨c, 0, none⟩) gs (.int .u64 (lim (R m) 0))).other (p := ⟨c, 1, none⟩) gs (.int .u64 (lim (R m) 1))).other (p := ⟨c, 2, none⟩) gs (.int .u64 (lim (R m) 2))).other (p := ⟨c, 3, none⟩) gs (.int .u64 (lim (R m) 3)))
    have LN := ((((LN.other (p := ⟨c, 0, none⟩) sN (.int .u64 (lim (R m) 0))).other (p := ⟨c, 1, none⟩) sN (.int .u64 (lim (R m) 1))).other (p := ⟨c, 2, none⟩) sN (.int .u64 (lim (R m) 2))).other (p := ⟨c, 3, none⟩) sN (.int .u64 (lim (R m) 3)))
    have LR := ((((LR.other (p := ⟨c, 0, none⟩) sR (.int .u64 (lim (R m) 0))).other (p := ⟨c, 1, none⟩) sR (.int .u64 (lim (R m) 1))).other (p := ⟨c, 2, none⟩) sR (.int .u64 (lim (R m) 2))).other (p := ⟨c, 3, none⟩) sR (.int .u64 (lim (R m) 3)))
    have LP := ((((LP.other (p := ⟨c, 0, none⟩) sP (.int .u64 (lim (R m) 0))).other (p := ⟨c, 1, none⟩) sP (.int .u64 (lim (R m) 1))).other (p := ⟨c, 2, none⟩) sP (.int .u64 (lim (R m) 2))).other (p := ⟨c, 3, none⟩) sP (.int .u64 (lim (R m) 3)))
    have LS := (s4 LS (lim (R m)))
    have Q := ((((Q.setCell (p := ⟨c, 0, none⟩) hwc (.int .u64 (lim (R m) 0))).setCell (p := ⟨c, 1, none⟩) hwc (.int .u64 (lim (R m) 1))).setCell (p := ⟨c, 2, none⟩) hwc (.int .u64 (lim (R m) 2))).setCell (p := ⟨c, 3, none⟩) hwc (.int .u64 (lim (R m) 3)))
    have cI := hI.cell HMm.out
    rw [hbit] at cI
    have N1 := hid hI
    have N2 := hid LN
    have N3 := hid LR
    have N4 := hid LP
    have N5 := hid LS
    have N6 := hid Q
    clear hI LN LR LP LS Q
    go_wp2
    go_roundw
    case rel => exact ⟨m, (m : Int) - 1, by have := HMm.out; omega, rfl, rfl, N1.out, N2.out, N3.out, N4.out, N5.out, N6.out⟩
    case measure => simp [intOf]
   ·have H4 := hid (HA.out m HMm.out hbit)
    have H5 := hid (HC.out m HMm.out hbit)
    have H6 := hid (HL.out m HMm.out hbit)
    clear HK HA HC HL
    obtain ⟨cS0, cS1, cS2, cS3⟩ := c4 LS
    obtain ⟨cN0, cN1, cN2, cN3⟩ := c4 LN
    go_wp2_with fail
    refine (Hd.out _).mono ?_
    rintro e v1 ⟨rfl, q⟩
    clear cS0 cS1 cS2 cS3 cN0 cN1 cN2 cN3 Hd
    have hI := hI.later q
    have LN := LN.later q
    have LR := LR.later q
    have LP := LP.later q
    have LS := LS.later q
    have Q := Q.trans (q.mono Q.size)
    clear q
    obtain ⟨d0, d1, d2, d3⟩ := c4 LS
    obtain ⟨f0, f1, f2, f3⟩ := f4 LS
    have hI := ((((hI.other (p := ⟨c, 0, none⟩) gs (.int .u64 (lim (D m) 0))).other (p := ⟨c, 1, none⟩) gs (.int .u64 (lim (D m) 1))).other (p := ⟨c, 2, none⟩) gs (.int .u64 (lim (D m) 2))).other (p := ⟨c, 3, none⟩) gs (.int .u64 (lim (D m) 3)))
    have LN := ((((LN.other (p := ⟨c, 0, none⟩) sN (.int .u64 (lim (D m) 0))).other (p := ⟨c, 1, none⟩) sN (.int .u64 (lim (D m) 1))).other (p := ⟨c, 2, none⟩) sN (.int .u64 (lim (D m) 2))).other (p := ⟨c, 3, none⟩) sN (.int .u64 (lim (D m) 3)))
    have LR := ((((LR.other (p := ⟨c, 0, none⟩) sR (.int .u64 (lim (D m) 0))).other (p := ⟨c, 1, none⟩) sR (.int .u64 (lim (D m) 1))).other (p := ⟨c, 2, none⟩) sR (.int .u64 (lim (D m) 2))).other (p := ⟨c, 3, none⟩) sR (.int .u64 (lim (D m) 3)))
    have LP := ((((LP.other (p := ⟨c, 0, none⟩) sP (.int .u64 (lim (D m) 0))).other (p := ⟨c, 1, none⟩) sP (.int .u64 (lim (D m) 1))).other (p := ⟨c, 2, none⟩) sP (.int .u64 (lim (D m) 2))).other (p := ⟨c, 3, none⟩) sP (.int .u64 (lim (D m) 3)))
    have LS := (s4 LS (lim (D m)))
    have Q := ((((Q.setCell (p := ⟨c, 0, none⟩) hwc (.int .u64 (lim (D m) 0))).setCell (p := ⟨c, 1, none⟩) hwc (.int .u64 (lim (D m) 1))).setCell (p := ⟨c, 2, none⟩) hwc (.int .u64 (lim (D m) 2))).setCell (p := ⟨c, 3, none⟩) hwc (.int .u64 (lim (D m) 3)))
    have cI := hI.cell HMm.out
    rw [hbit] at cI
    obtain ⟨cS0, cS1, cS2, cS3⟩ := c4 LS
    obtain ⟨cP0, cP1, cP2, cP3⟩ := c4 LP
    go_wp2_with fail
    replace LS : Has ((((v1.setCell ⟨c, 0, none⟩ (.int .u64 (lim (D m) 0))).setCell ⟨c, 1, none⟩ (.int .u64 (lim (D m) 1))).setCell ⟨c, 2, none⟩ (.int .u64 (lim (D m) 2))).setCell ⟨c, 3, none⟩ (.int .u64 (lim (D m) 3))) c 24 #[.int .u64 (lim (D m) 0), .int .u64 (lim (D m) 1), .int .u64 (lim (D m) 2), .int .u64 (lim (D m) 3)] := LS
    obtain ⟨W5, hW5⟩ : ∃ W5, ((((v1.setCell ⟨c, 0, none⟩ (.int .u64 (lim (D m) 0))).setCell ⟨c, 1, none⟩ (.int .u64 (lim (D m) 1))).setCell ⟨c, 2, none⟩ (.int .u64 (lim (D m) 2))).setCell ⟨c, 3, none⟩ (.int .u64 (lim (D m) 3))) = W5 := ⟨_, rfl⟩
    rw [hW5] at hI LN LR LP LS Q ⊢
    clear hW5 cS0 cS1 cS2 cS3 cP0 cP1 cP2 cP3 cI d0 d1 d2 d3 f0 f1 f2 f3
    refine (H4.out _).mono ?_
    rintro e v2 ⟨rfl, q⟩
    clear H4
    have hI := (hI.later q).alloc (.cells #[.int .u64 (lim (S m) 0), .int .u64 (lim (S m) 1), .int .u64 (lim (S m) 2), .int .u64 (lim (S m) 3)] 24)
    have LN := (LN.later q).alloc (.cells #[.int .u64 (lim (S m) 0), .int .u64 (lim (S m) 1), .int .u64 (lim (S m) 2), .int .u64 (lim (S m) 3)] 24)
    have LR := (LR.later q).alloc (.cells #[.int .u64 (lim (S m) 0), .int .u64 (lim (S m) 1), .int .u64 (lim (S m) 2), .int .u64 (lim (S m) 3)] 24)
    have LP := (LP.later q).alloc (.cells #[.int .u64 (lim (S m) 0), .int .u64 (lim (S m) 1), .int .u64 (lim (S m) 2), .int .u64 (lim (S m) 3)] 24)
    have LS := (LS.later q).alloc (.cells #[.int .u64 (lim (S m) 0), .int .u64 (lim (S m) 1), .int .u64 (lim (S m) 2), .int .u64 (lim (S m) 3)] 24)
    have LU := Has.new v2 24 #[.int .u64 (lim (S m) 0), .int .u64 (lim (S m) 1), .int .u64 (lim (S m) 2), .int .u64 (lim (S m) 3)]
    have Q := Q.trans (q.mono Q.size)
    have Q := Q.alloc Q.size (.cells #[.int .u64 (lim (S m) 0), .int .u64 (lim (S m) 1), .int .u64 (lim (S m) 2), .int .u64 (lim (S m) 3)] 24)
    clear q
    obtain ⟨cS0, cS1, cS2, cS3⟩ := c4 LS
    obtain ⟨cN0, cN1, cN2, cN3⟩ := c4 LN
    obtain ⟨cU0, cU1, cU2, cU3⟩ := c4 LU
    go_wp2
    clear cS0 cS1 cS2 cS3 cN0 cN1 cN2 cN3 cU0 cU1 cU2 cU3
    obtain ⟨W6, hW6⟩ : ∃ W6, v2.alloc (.cells #[.int .u64 (lim (S m) 0), .int .u64 (lim (S m) 1), .int .u64 (lim (S m) 2), .int .u64 (lim (S m) 3)] 24) = W6 := ⟨_, rfl⟩
    rw [hW6] at hI LN LR LP LS LU Q ⊢
    clear hW6
    generalize v2.heap.size = bu at *
    have hmx : Tryz.prog.follows .mixedOrders = true := by kernel_rfl
    obtain ⟨kS0, kS1, kS2, kS3⟩ := e4 LS
    obtain ⟨kN0, kN1, kN2, kN3⟩ := e4 LN
    obtain ⟨kU0, kU1, kU2, kU3⟩ := e4 LU
    refine wp_region_mix (C := Grows W6) [some true, some true, some true, some true, some true, some true, some true, some true, some true, some false, none] hmx (by kernel_rfl) (by kernel_rfl) (grows_refl W6) ?_
    simp only [headOf, tailOf]
    repeat (go_big_quiet_step (first | (with_reducible exact Ret.at H5.out _) | (with_reducible exact Ret.at H6.out _)))
    refine wpQuiet_nil ?_
    rintro _ ⟨y, rfl⟩
    clear kS0 kS1 kS2 kS3 kN0 kN1 kN2 kN3 kU0 kU1 kU2 kU3 LU
    have hI := hI.later y.below
    have LN := LN.later y.below
    have LR := LR.later y.below
    have LP := LP.later y.below
    have LS := LS.later y.below
    have Q := Q.trans (y.below.mono Q.size)
    obtain ⟨d0, d1, d2, d3⟩ := c4 LS
    obtain ⟨f0, f1, f2, f3⟩ := f4 LS
    have hI := ((((hI.other (p := ⟨c, 0, none⟩) gs (.int .u64 (lim (R m) 0))).other (p := ⟨c, 1, none⟩) gs (.int .u64 (lim (R m) 1))).other (p := ⟨c, 2, none⟩) gs (.int .u64 (lim (R m) 2))).other (p := ⟨c, 3, none⟩) gs (.int .u64 (lim (R m) 3)))
    have LN := ((((LN.other (p := ⟨c, 0, none⟩) sN (.int .u64 (lim (R m) 0))).other (p := ⟨c, 1, none⟩) sN (.int .u64 (lim (R m) 1))).other (p := ⟨c, 2, none⟩) sN (.int .u64 (lim (R m) 2))).other (p := ⟨c, 3, none⟩) sN (.int .u64 (lim (R m) 3)))
    have LR := ((((LR.other (p := ⟨c, 0, none⟩) sR (.int .u64 (lim (R m) 0))).other (p := ⟨c, 1, none⟩) sR (.int .u64 (lim (R m) 1))).other (p := ⟨c, 2, none⟩) sR (.int .u64 (lim (R m) 2))).other (p := ⟨c, 3, none⟩) sR (.int .u64 (lim (R m) 3)))
    have LP := ((((LP.other (p := ⟨c, 0, none⟩) sP (.int .u64 (lim (R m) 0))).other (p := ⟨c, 1, none⟩) sP (.int .u64 (lim (R m) 1))).other (p := ⟨c, 2, none⟩) sP (.int .u64 (lim (R m) 2))).other (p := ⟨c, 3, none⟩) sP (.int .u64 (lim (R m) 3)))
    have LS := (s4 LS (lim (R m)))
    have Q := ((((Q.setCell (p := ⟨c, 0, none⟩) hwc (.int .u64 (lim (R m) 0))).setCell (p := ⟨c, 1, none⟩) hwc (.int .u64 (lim (R m) 1))).setCell (p := ⟨c, 2, none⟩) hwc (.int .u64 (lim (R m) 2))).setCell (p := ⟨c, 3, none⟩) hwc (.int .u64 (lim (R m) 3)))
    have N1 := hid hI
    have N2 := hid LN
    have N3 := hid LR
    have N4 := hid LP
    have N5 := hid LS
    have N6 := hid Q
    clear hI LN LR LP LS Q
    go_wp2
    rw [calmPost_normal]
    go_wp2
    go_roundw
    case rel => exact ⟨m, (m : Int) - 1, by have := HMm.out; omega, rfl, rfl, N1.out, N2.out, N3.out, N4.out, N5.out, N6.out⟩
    case measure => simp [intOf]
def mmN (x b n k : Nat) : Nat := x * (b / 2 ^ k) % n
theorem mmN_zero (x b n : Nat) : mmN x b n 0 = x * b % n := by unfold mmN; rw [Nat.pow_zero, Nat.div_one]
theorem mmN_top (x b n : Nat) (hb : W256 b) : mmN x b n 256 = 0 := by
 unfold mmN
 rw [Nat.div_eq_of_lt (show b < 2 ^ 256 from hb), Nat.mul_zero, Nat.zero_mod]
theorem mmN_lt (x b n k : Nat) (h : 0 < n) : mmN x b n k < n := Nat.mod_lt _ h
theorem bit_split (b m : Nat) : b / 2 ^ m = 2 * (b / 2 ^ (m + 1)) + bt b m := by
 unfold bt
 rw [Nat.pow_succ, ← Nat.div_div_eq_div_mul]
 omega
theorem mm_keep (x b n m : Nat) (h : bt b m = 0) : 2 * mmN x b n (m + 1) % n = mmN x b n m := by
 unfold mmN
 rw [bit_split b m, h, Nat.mul_mod_mod, Nat.mul_left_comm]
 simp only [Nat.add_zero]
theorem mm_more (x b n m : Nat) (hx : x < n) (h : bt b m = 1) : (2 * mmN x b n (m + 1) % n + x) % n = mmN x b n m := by
 unfold mmN
 rw [bit_split b m, h, Nat.mod_add_mod, Nat.mul_add, Nat.mul_one, Nat.mul_left_comm x 2]
 rw [Nat.add_mod, Nat.mul_mod_mod, ← Nat.add_mod]
theorem dbl_mod (r n : Nat) (h : r < n) : (if n ≤ 2 * r + 0 then 2 * r + 0 - n else 2 * r + 0) = 2 * r % n := by
 rw [Nat.add_zero]
 by_cases hl : n ≤ 2 * r
 ·rw [if_pos hl, Nat.mod_eq_sub_mod hl, Nat.mod_eq_of_lt (by omega)]
 ·rw [if_neg hl, Nat.mod_eq_of_lt (by omega)]
theorem refMulmod_ret (a b n : Nat) (ha : W256 a) (hb : W256 b) (hn : W256 n) : Ret Tryz.prog 45 #[wv a, wv b, wv n] (wv (if n = 0 then 0 else (a * b) % n)) := by
 have h0 := refNone_ret n hn
 by_cases h : n = 0
 ·rw [decide_eq_true h] at h0
  rw [if_pos h]
  conv => rhs; rw [← h]
  exact refMulmod_zero a b n h0
 ·rw [decide_eq_false h] at h0
  have hp : 0 < n := Nat.pos_of_ne_zero h
  have hx := Nat.mod_lt a hp
  have wx : W256 (a % n) := Nat.lt_trans hx hn
  have h1 := refMod_ret a n ha hn
  rw [if_neg h] at h1
  have wD : ∀ k, 2 * mmN (a % n) b n (k + 1) % n < n := fun k => Nat.mod_lt _ hp
  have wS : ∀ k, W256 (wmod (2 * mmN (a % n) b n (k + 1) % n + a % n)) := fun k => Nat.mod_lt _ (by decide)
  rw [if_neg h, show a * b % n = mmN (a % n) b n 0 by rw [mmN_zero, Nat.mod_mul_mod]]
  refine refMulmod_some a b n (a % n) (mmN (a % n) b n) (fun k => 2 * mmN (a % n) b n (k + 1) % n) (fun k => wmod (2 * mmN (a % n) b n (k + 1) % n + a % n)) (fun k => wcmp (wmod (2 * mmN (a % n) b n (k + 1) % n + a % n)) (2 * mmN (a % n) b n (k + 1) % n)) (fun k => decide (n ≤ 2 * mmN (a % n) b n (k + 1) + 0)) (fun k => decide (decide (wcmp (wmod (2 * mmN (a % n) b n (k + 1) % n + a % n)) (2 * mmN (a % n) b n (k + 1) % n) < 0) = true ∨ n ≤ wmod (2 * mmN (a % n) b n (k + 1) % n + a % n))) h0 h1 (fun k _ => ?_) (fun k _ e => mm_keep _ _ _ _ e) (fun k _ _ => refAdd_ret _ _ (Nat.lt_trans (wD k) hn) wx) (fun k _ _ => refCmp_ret _ _ (wS k) (Nat.lt_trans (wD k) hn)) (fun k _ e => ?_) (fun j => ?_)
  ·have hd := refDouble_ret (mmN (a % n) b n (k + 1)) n 0 (Nat.lt_trans (mmN_lt _ _ _ _ hp) hn) hn (by omega) (mmN_lt _ _ _ _ hp)
   rw [dbl_mod _ _ (mmN_lt _ _ _ _ hp), show decide (0 = 1) = false from rfl] at hd
   exact hd
  ·have hl := refLess_ret (wmod (2 * mmN (a % n) b n (k + 1) % n + a % n)) n (decide (wcmp (wmod (2 * mmN (a % n) b n (k + 1) % n + a % n)) (2 * mmN (a % n) b n (k + 1) % n) < 0)) (wS k) hn
   rw [add_less _ _ _ (wD k) hx hn, mm_more _ _ _ _ hx e] at hl
   exact hl
  ·rw [mmN_top _ _ _ hb]
   unfold lim
   split <;> simp
end
section
open Go Go.RowKit
theorem top_of (a : Nat) (ha : W256 a) : decide (9223372036854775808 ≤ lim a 3) = negN a := by
 unfold negN
 refine decide_eq_decide.2 ?_
 have h : lim a 3 = ((a / 6277101735386680763835789423207666416102355444464034512896 % 18446744073709551616 : Nat) : Int) := rfl
 rw [h]
 unfold W256 at ha
 constructor <;> intro h' <;> omega
theorem wsub_zero (a : Nat) (ha : W256 a) (h : a ≠ 0) : wsub 0 a = 115792089237316195423570985008687907853269984665640564039457584007913129639936 - a := by
 unfold W256 at ha; unfold wsub wmod; omega
theorem szN_pos (a : Nat) (h : negN a = false) : szN a = a := by unfold szN sgN; rw [h]; rfl
theorem szN_neg (a : Nat) (ha : W256 a) (h : negN a = true) : szN a = 115792089237316195423570985008687907853269984665640564039457584007913129639936 - a ∧ 0 < szN a := by
 have hk : 57896044618658097711785492504343953926634992332820282019728792003956564819968 ≤ a := by unfold negN at h; simpa using h
 have e : szN a = wsub 0 a := by unfold szN sgN; rw [h]; rfl
 rw [e, wsub_zero a ha (by omega)]
 unfold W256 at ha
 omega
theorem szN_le (a : Nat) (ha : W256 a) : szN a ≤ 57896044618658097711785492504343953926634992332820282019728792003956564819968 := by
 cases h : negN a with
 | false =>
  rw [szN_pos a h]
  unfold negN at h
  simp at h
  omega
 | true =>
  have hk : 57896044618658097711785492504343953926634992332820282019728792003956564819968 ≤ a := by unfold negN at h; simpa using h
  have := (szN_neg a ha h).1
  omega
end
end Go.Proofs.YtnkhmgmganejmaaGreatDoor
