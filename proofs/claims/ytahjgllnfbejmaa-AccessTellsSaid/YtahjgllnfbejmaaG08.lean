/- Part. -/
import Derived.Test.YtahjgllnfbejmaaG07
import Derived.Test.YtahjgllnfbejmaaG03
import Derived.Deep.MidRow
import Derived.Deep.WholeRow
set_option maxRecDepth 100000
set_option maxHeartbeats 16000000
namespace Go.Proofs.Ytahjgllnfbejmaa
section
open Go Go.RowKit
attribute [local go_sem] Oper.semAt_some Grows wide_fn
theorem ksets_any (W : World) (v1 v2 : Value) (r s r2 s2 : List Ky) (hs1 : SetsAt W v1 r s) (hs2 : SetsAt W v2 r2 s2) :
  Calls Try.prog 13 #[v1, v2] W fun e w' => e = .returned (.bool (decide (r = r2) && decide (s = s2))) ∧ Below W.heap.size W w' := by
 obtain ⟨a1, c1, a2, c2, rfl, k1, k2⟩ := hs1.shapes
 obtain ⟨a3, c3, a4, c4, rfl, k3, k4⟩ := hs2.shapes
 have HS := hid (fun (X : World) (hX : Below W.heap.size W X) => ksame_any X _ _ r r2 (k1.later hX) (k3.later hX))
 have HT := hid (fun (X : World) (hX : Below W.heap.size W X) => ksame_any X _ _ s s2 (k2.later hX) (k4.later hX))
 clear hs1 hs2 k1 k2 k3 k4
 generalize decide (r = r2) = p at *
 generalize decide (s = s2) = q at *
 generalize r.length = n1 at *
 generalize s.length = n2 at *
 generalize r2.length = n3 at *
 generalize s2.length = n4 at *
 have h0 := (Has.new W 24 #[.slice a1 n1 c1, .slice a2 n2 c2]).alloc (.cells #[.slice a3 n3 c3, .slice a4 n4 c4] 24)
 have h1 := Has.new (W.alloc (.cells #[.slice a1 n1 c1, .slice a2 n2 c2] 24)) 24 #[.slice a3 n3 c3, .slice a4 n4 c4]
 simp only [World.size_alloc] at h1
 have q0 := (newA W (.cells #[.slice a1 n1 c1, .slice a2 n2 c2] 24)).alloc (by simp) (.cells #[.slice a3 n3 c3, .slice a4 n4 c4] 24)
 obtain ⟨V, hV⟩ : ∃ V, (W.alloc (.cells #[.slice a1 n1 c1, .slice a2 n2 c2] 24)).alloc (.cells #[.slice a3 n3 c3, .slice a4 n4 c4] 24) = V := ⟨_, rfl⟩
 rw [hV] at h0 h1 q0
 have H0 := hid h0
 have H1 := hid h1
 have Q := hid q0
 have b0 := h0.cell 0 _ rfl
 have d0 := h1.cell 0 _ rfl
 have HS0 := hid (HS.out V q0)
 clear h0 h1 q0
 cases p
 ·go_enter Try.func13, Try.ntmps13
  go_wp2_with fail
  refine HS0.out.mono ?_
  rintro _ w1 ⟨rfl, hb1⟩
  have HE := hid (Q.out.trans (hb1.mono Q.out.size))
  go_wp2_with fail
  go_ret
  exact ⟨rfl, HE.out⟩
 ·go_enter Try.func13, Try.ntmps13
  go_wp2_with fail
  refine HS0.out.mono ?_
  rintro _ w1 ⟨rfl, hb1⟩
  have HE := hid (Q.out.trans (hb1.mono Q.out.size))
  have b1 := (H0.out.later hb1).cell 1 _ rfl
  have d1 := (H1.out.later hb1).cell 1 _ rfl
  go_wp2_with fail
  refine (HT.out w1 HE.out).mono ?_
  rintro _ w2 ⟨rfl, hb2⟩
  have HF := hid (HE.out.trans (hb2.mono HE.out.size))
  go_wp2_with fail
  go_ret
  exact ⟨rfl, HF.out⟩
theorem of1_any (W : World) : Calls Try.prog 7 #[.int .i64 1] W fun e w' => e = .returned (.agg #[.int .u64 1, .int .u64 0, .int .u64 0, .int .u64 0]) ∧ Below W.heap.size W w' := by
 have h := refOf_ret 1 (by unfold I64; omega) W
 have e : wv (ofN 1) = .agg #[.int .u64 1, .int .u64 0, .int .u64 0, .int .u64 0] := by kernel_rfl
 rw [e] at h
 exact h
theorem awake_any (w : World) : Calls Try.prog 4 #[] w fun e w' => e = .returned (.bool true) ∧ Below w.heap.size w w' := by
 obtain ⟨A0, hA0, h0, q0⟩ := newK0 w
 have h1 : Has (A0.setRow w.heap.size #[.int .u8 1, .int .u8 0, .int .u8 0, .int .u8 0, .int .u8 0, .int .u8 0, .int .u8 0, .int .u8 0, .int .u8 0, .int .u8 0, .int .u8 0, .int .u8 0, .int .u8 0, .int .u8 0, .int .u8 0, .int .u8 0, .int .u8 0, .int .u8 0, .int .u8 0, .int .u8 0, .bool true, .int .u64 0, .int .u64 0, .int .u64 0, .int .u64 0]) w.heap.size 31 (kyC kk) := by rw [kk_cells]; exact setRow_heap _ _ _ _ _ _ h0
 have q1 := below_rowK q0 (g := w.heap.size) (Nat.le_refl _) #[.int .u8 1, .int .u8 0, .int .u8 0, .int .u8 0, .int .u8 0, .int .u8 0, .int .u8 0, .int .u8 0, .int .u8 0, .int .u8 0, .int .u8 0, .int .u8 0, .int .u8 0, .int .u8 0, .int .u8 0, .int .u8 0, .int .u8 0, .int .u8 0, .int .u8 0, .int .u8 0, .bool true, .int .u64 0, .int .u64 0, .int .u64 0, .int .u64 0]
 obtain ⟨A1, hA1⟩ : ∃ A1, A0.setRow w.heap.size #[.int .u8 1, .int .u8 0, .int .u8 0, .int .u8 0, .int .u8 0, .int .u8 0, .int .u8 0, .int .u8 0, .int .u8 0, .int .u8 0, .int .u8 0, .int .u8 0, .int .u8 0, .int .u8 0, .int .u8 0, .int .u8 0, .int .u8 0, .int .u8 0, .int .u8 0, .int .u8 0, .bool true, .int .u64 0, .int .u64 0, .int .u64 0, .int .u64 0] = A1 := ⟨_, rfl⟩
 rw [hA1] at h1 q1
 obtain ⟨A2, hA2, h2, q2⟩ := newK0 A1
 have h3 : Has (A2.setRow A1.heap.size #[.int .u8 1, .int .u8 0, .int .u8 0, .int .u8 0, .int .u8 0, .int .u8 0, .int .u8 0, .int .u8 0, .int .u8 0, .int .u8 0, .int .u8 0, .int .u8 0, .int .u8 0, .int .u8 0, .int .u8 0, .int .u8 0, .int .u8 0, .int .u8 0, .int .u8 0, .int .u8 0, .bool false, .int .u64 0, .int .u64 0, .int .u64 0, .int .u64 0]) A1.heap.size 31 (kyC kl) := by rw [kl_cells]; exact setRow_heap _ _ _ _ _ _ h2
 have q3 := below_rowK q2 (g := A1.heap.size) (Nat.le_refl _) #[.int .u8 1, .int .u8 0, .int .u8 0, .int .u8 0, .int .u8 0, .int .u8 0, .int .u8 0, .int .u8 0, .int .u8 0, .int .u8 0, .int .u8 0, .int .u8 0, .int .u8 0, .int .u8 0, .int .u8 0, .int .u8 0, .int .u8 0, .int .u8 0, .int .u8 0, .int .u8 0, .bool false, .int .u64 0, .int .u64 0, .int .u64 0, .int .u64 0]
 obtain ⟨A3, hA3⟩ : ∃ A3, A2.setRow A1.heap.size #[.int .u8 1, .int .u8 0, .int .u8 0, .int .u8 0, .int .u8 0, .int .u8 0, .int .u8 0, .int .u8 0, .int .u8 0, .int .u8 0, .int .u8 0, .int .u8 0, .int .u8 0, .int .u8 0, .int .u8 0, .int .u8 0, .int .u8 0, .int .u8 0, .int .u8 0, .int .u8 0, .bool false, .int .u64 0, .int .u64 0, .int .u64 0, .int .u64 0] = A3 := ⟨_, rfl⟩
 rw [hA3] at h3 q3
 have HK1 := hid (h1.later q3)
 have HK2 := hid h3
 have Qw3 := hid (q1.trans (q3.mono q1.size))
 have L1 := hid HK1.out.kyLoad
 have L2 := hid h3.kyLoad
 have hiK : (Try.prog.info? 31).map (·.size) = some (#[.int .u8 1, .int .u8 0, .int .u8 0, .int .u8 0, .int .u8 0, .int .u8 0, .int .u8 0, .int .u8 0, .int .u8 0, .int .u8 0, .int .u8 0, .int .u8 0, .int .u8 0, .int .u8 0, .int .u8 0, .int .u8 0, .int .u8 0, .int .u8 0, .int .u8 0, .int .u8 0, .bool true, .int .u64 0, .int .u64 0, .int .u64 0, .int .u64 0] : Array Value).size := by kernel_rfl
 have hiL : (Try.prog.info? 31).map (·.size) = some (#[.int .u8 1, .int .u8 0, .int .u8 0, .int .u8 0, .int .u8 0, .int .u8 0, .int .u8 0, .int .u8 0, .int .u8 0, .int .u8 0, .int .u8 0, .int .u8 0, .int .u8 0, .int .u8 0, .int .u8 0, .int .u8 0, .int .u8 0, .int .u8 0, .int .u8 0, .int .u8 0, .bool false, .int .u64 0, .int .u64 0, .int .u64 0, .int .u64 0] : Array Value).size := by kernel_rfl
 have haK : (#[.int .u8 1, .int .u8 0, .int .u8 0, .int .u8 0, .int .u8 0, .int .u8 0, .int .u8 0, .int .u8 0, .int .u8 0, .int .u8 0, .int .u8 0, .int .u8 0, .int .u8 0, .int .u8 0, .int .u8 0, .int .u8 0, .int .u8 0, .int .u8 0, .int .u8 0, .int .u8 0, .bool true, .int .u64 0, .int .u64 0, .int .u64 0, .int .u64 0] : Array Value).all (·.oneCell') = true := by rw [← kk_cells]; exact kyC_one kk
 have haL : (#[.int .u8 1, .int .u8 0, .int .u8 0, .int .u8 0, .int .u8 0, .int .u8 0, .int .u8 0, .int .u8 0, .int .u8 0, .int .u8 0, .int .u8 0, .int .u8 0, .int .u8 0, .int .u8 0, .int .u8 0, .int .u8 0, .int .u8 0, .int .u8 0, .int .u8 0, .int .u8 0, .bool false, .int .u64 0, .int .u64 0, .int .u64 0, .int .u64 0] : Array Value).all (·.oneCell') = true := by rw [← kl_cells]; exact kyC_one kl
 obtain ⟨A4, hA4⟩ : ∃ A4, A3.alloc (.cells (flatKy [kk, kl, kk]).toArray 31) = A4 := ⟨_, rfl⟩
 have q4 := newA A3 (.cells (flatKy [kk, kl, kk]).toArray 31)
 rw [hA4] at q4
 have MK := hid (show Calls Try.prog 11 #[.slice none 0 0, .slice (some ⟨A3.heap.size, 0, none⟩) 3 3] A4 (SetsP A4 [] [kl, kk] 0) from by
  have hm := keys_made A3 [kk, kl, kk] (by intro x hx; simp at hx; rcases hx with rfl | rfl | rfl; exact kk_ok; exact kl_ok; exact kk_ok) (by decide)
  rw [hA4] at hm
  have h := make_any A4 _ _ [] [kk, kl, kk] (KeysAt.nil _) hm (by decide) (by decide)
  rw [mkA_] at h
  exact h)
 have Q34 := hid q4
 clear q0 h1 q1 q2 h3 q3 q4
 go_enter Try.func4, Try.ntmps4
 simp only [List.append]
 go_wp2_with (first | (refine wpList_store_row rfl _ (.tmp 1) (.tmp 12) rfl _ _ rfl rfl _ _ h0 hiK rfl haK ?_; rw [hA1]) | (refine wpList_store_row rfl _ (.tmp 2) (.tmp 14) rfl _ _ rfl rfl _ _ h2 hiL rfl haL ?_; rw [hA3]) | (with_reducible refine wpList_load_known rfl _ (.tmp 1) rfl _ rfl _ L1.out ?_) | (with_reducible refine wpList_load_known rfl _ (.tmp 2) rfl _ rfl _ L2.out ?_) | (refine wpList_build_k3 rfl (.tmp 16) (.tmp 17) (.tmp 18) rfl kk kl kk rfl rfl rfl ?_; rw [hA4]))
 clear h0 hA0 hA1 h2 hA2 hA3 hiK hiL haK haL hA4 L1 L2
 refine MK.out.mono ?_
 rintro _ w1 ⟨x1, y1, rfl, kx1, ky1, hb1⟩
 obtain ⟨ax1, cx1, ex1, _⟩ := kx1.shape
 obtain ⟨ay1, cy1, ey1, _⟩ := ky1.shape
 replace ex1 : x1 = .slice ax1 0 cx1 := ex1
 replace ey1 : y1 = .slice ay1 2 cy1 := ey1
 subst ex1 ey1
 have Q3 := hid (Q34.out.trans (hb1.mono Q34.out.size))
 clear MK Q34 hb1
 obtain ⟨A5, hA5, hB5, hq5⟩ := newBox w1 24 #[.slice ax1 0 cx1, .slice ay1 2 cy1]
 have HS5 := hid hB5
 have KX5 := hid (kx1.later hq5)
 have KY5 := hid (ky1.later hq5)
 replace Q3 := hid (Q3.out.trans (hq5.mono Q3.out.size))
 have T5 := hid (Below.refl A5.heap.size A5)
 clear hB5 hq5 kx1 ky1
 have L1 := hid (HK1.out.later Q3.out).kyLoad
 have L2 := hid (HK2.out.later Q3.out).kyLoad
 obtain ⟨A6, hA6⟩ : ∃ A6, A5.alloc (.cells (flatKy [kk]).toArray 31) = A6 := ⟨_, rfl⟩
 have q6 := newA A5 (.cells (flatKy [kk]).toArray 31)
 rw [hA6] at q6
 have MK := hid (show Calls Try.prog 11 #[.slice (some ⟨A5.heap.size, 0, none⟩) 1 1, .slice none 0 0] A6 (SetsP A6 [kk] [] 0) from by
  have hm := keys_made A5 [kk] (by intro x hx; simp at hx; subst hx; exact kk_ok) (by decide)
  rw [hA6] at hm
  have h := make_any A6 _ _ [kk] [] hm (KeysAt.nil _) (by decide) (by decide)
  rw [mkB_] at h
  exact h)
 have Q56 := hid q6
 clear q6
 go_wp2_with (first | (with_reducible refine wpList_load_known rfl _ (.tmp 1) rfl _ rfl _ L1.out ?_) | (with_reducible refine wpList_load_known rfl _ (.tmp 2) rfl _ rfl _ L2.out ?_) | (refine wpList_build_k1 rfl (.tmp 24) rfl kk rfl ?_; rw [hA6]))
 clear hA5 hA6 L1 L2
 refine MK.out.mono ?_
 rintro _ w2 ⟨x2, y2, rfl, kx2, ky2, hb2⟩
 obtain ⟨ax2, cx2, ex2, _⟩ := kx2.shape
 obtain ⟨ay2, cy2, ey2, _⟩ := ky2.shape
 replace ex2 : x2 = .slice ax2 1 cx2 := ex2
 replace ey2 : y2 = .slice ay2 0 cy2 := ey2
 subst ex2 ey2
 have hb52 := Q56.out.trans (hb2.mono Q56.out.size)
 replace Q3 := hid (Q3.out.trans (hb52.mono Q3.out.size))
 replace T5 := hid (T5.out.trans (hb52.mono T5.out.size))
 clear MK Q56 hb2 hb52
 obtain ⟨A7, hA7, hB7, hq7⟩ := newBox w2 24 #[.slice ax2 1 cx2, .slice ay2 0 cy2]
 have HS7 := hid hB7
 have KX7 := hid (kx2.later hq7)
 have KY7 := hid (ky2.later hq7)
 replace Q3 := hid (Q3.out.trans (hq7.mono Q3.out.size))
 replace T5 := hid (T5.out.trans (hq7.mono T5.out.size))
 have T7 := hid (Below.refl A7.heap.size A7)
 clear hB7 hq7 kx2 ky2
 have O1 := hid (of1_any A7)
 go_wp2_with fail
 clear hA7
 refine O1.out.mono ?_
 rintro _ w3 ⟨rfl, hb3⟩
 replace Q3 := hid (Q3.out.trans (hb3.mono Q3.out.size))
 replace T5 := hid (T5.out.trans (hb3.mono T5.out.size))
 replace T7 := hid (T7.out.trans (hb3.mono T7.out.size))
 clear O1 hb3
 obtain ⟨A8, hA8⟩ : ∃ A8, w3.alloc (.cells (flatKy [k1]).toArray 31) = A8 := ⟨_, rfl⟩
 have q8 := newA w3 (.cells (flatKy [k1]).toArray 31)
 rw [hA8] at q8
 have MK := hid (show Calls Try.prog 11 #[.slice none 0 0, .slice (some ⟨w3.heap.size, 0, none⟩) 1 1] A8 (SetsP A8 [] [] 1) from by
  have hm := keys_made w3 [k1] (by intro x hx; simp at hx; subst hx; exact k1_ok) (by decide)
  rw [hA8] at hm
  have h := make_any A8 _ _ [] [k1] (KeysAt.nil _) hm (by decide) (by decide)
  rw [mkC_] at h
  exact h)
 have Q38 := hid q8
 clear q8
 go_wp2_with (refine wpList_build_k1 rfl (.tmp 31) rfl k1 (by rw [k1_cells]; rfl) ?_; rw [hA8])
 clear hA8
 refine MK.out.mono ?_
 rintro _ w4 ⟨x4, y4, rfl, kx4, ky4, hb4⟩
 obtain ⟨ax4, cx4, ex4, _⟩ := kx4.shape
 obtain ⟨ay4, cy4, ey4, _⟩ := ky4.shape
 replace ex4 : x4 = .slice ax4 0 cx4 := ex4
 replace ey4 : y4 = .slice ay4 0 cy4 := ey4
 subst ex4 ey4
 have hb34 := Q38.out.trans (hb4.mono Q38.out.size)
 replace Q3 := hid (Q3.out.trans (hb34.mono Q3.out.size))
 replace T5 := hid (T5.out.trans (hb34.mono T5.out.size))
 replace T7 := hid (T7.out.trans (hb34.mono T7.out.size))
 clear MK Q38 hb4 hb34
 obtain ⟨A9, hA9, hB9, hq9⟩ := newBox w4 24 #[.slice ax4 0 cx4, .slice ay4 0 cy4]
 have HS9 := hid hB9
 have KX9 := hid (kx4.later hq9)
 have KY9 := hid (ky4.later hq9)
 replace Q3 := hid (Q3.out.trans (hq9.mono Q3.out.size))
 replace T5 := hid (T5.out.trans (hq9.mono T5.out.size))
 replace T7 := hid (T7.out.trans (hq9.mono T7.out.size))
 have T9 := hid (Below.refl A9.heap.size A9)
 clear hB9 hq9 kx4 ky4
 have u0 := (HS5.out.later T5.out).cell 0 _ rfl
 have u1 := (HS5.out.later T5.out).cell 1 _ rfl
 have v0 := (HS7.out.later T7.out).cell 0 _ rfl
 have v1 := (HS7.out.later T7.out).cell 1 _ rfl
 have JN := hid (show Calls Try.prog 18 #[.agg #[.slice ax1 0 cx1, .slice ay1 2 cy1], .agg #[.slice ax2 1 cx2, .slice ay2 0 cy2]] A9 (SetsP A9 [kk] [kl, kk] 0) from by
  have h := kjoin_any A9 _ _ [] [kl, kk] [kk] [] (⟨_, _, rfl, KX5.out.later T5.out, KY5.out.later T5.out⟩ : SetsAt _ (.agg #[.slice ax1 0 cx1, .slice ay1 2 cy1]) [] [kl, kk]) (⟨_, _, rfl, KX7.out.later T7.out, KY7.out.later T7.out⟩ : SetsAt _ (.agg #[.slice ax2 1 cx2, .slice ay2 0 cy2]) [kk] [])
  rw [mkJ_] at h
  exact h)
 go_wp2_with fail
 clear hA9 u0 u1 v0 v1
 refine JN.out.mono ?_
 rintro _ w5 ⟨x5, y5, rfl, kx5, ky5, hb5⟩
 obtain ⟨ax5, cx5, ex5, _⟩ := kx5.shape
 obtain ⟨ay5, cy5, ey5, _⟩ := ky5.shape
 replace ex5 : x5 = .slice ax5 1 cx5 := ex5
 replace ey5 : y5 = .slice ay5 2 cy5 := ey5
 subst ex5 ey5
 replace Q3 := hid (Q3.out.trans (hb5.mono Q3.out.size))
 replace T5 := hid (T5.out.trans (hb5.mono T5.out.size))
 replace T7 := hid (T7.out.trans (hb5.mono T7.out.size))
 clear JN hb5
 obtain ⟨A11, hA11, hB11, hq11⟩ := newBox w5 24 #[.slice ax5 1 cx5, .slice ay5 2 cy5]
 have HS11 := hid hB11
 have KX11 := hid (kx5.later hq11)
 have KY11 := hid (ky5.later hq11)
 replace Q3 := hid (Q3.out.trans (hq11.mono Q3.out.size))
 replace T5 := hid (T5.out.trans (hq11.mono T5.out.size))
 replace T7 := hid (T7.out.trans (hq11.mono T7.out.size))
 have T11 := hid (Below.refl A11.heap.size A11)
 clear hB11 hq11 kx5 ky5
 have L1 := hid (HK1.out.later Q3.out).kyLoad
 have L2 := hid (HK2.out.later Q3.out).kyLoad
 have u0 := (HS5.out.later T5.out).cell 0 _ rfl
 have u1 := (HS5.out.later T5.out).cell 1 _ rfl
 obtain ⟨A12, hA12⟩ : ∃ A12, A11.alloc (.cells (flatKy [kl, kk]).toArray 31) = A12 := ⟨_, rfl⟩
 have q12 := newA A11 (.cells (flatKy [kl, kk]).toArray 31)
 rw [hA12] at q12
 have SM := hid (show Calls Try.prog 13 #[.agg #[.slice ax1 0 cx1, .slice ay1 2 cy1], .agg #[.slice none 0 0, .slice (some ⟨A11.heap.size, 0, none⟩) 2 2]] A12 (fun e w' => e = .returned (.bool true) ∧ Below A12.heap.size A12 w') from by
  have hm := keys_made A11 [kl, kk] (by intro x hx; simp at hx; rcases hx with rfl | rfl; exact kl_ok; exact kk_ok) (by decide)
  rw [hA12] at hm
  have h := ksets_any A12 _ _ [] [kl, kk] [] [kl, kk] ((⟨_, _, rfl, KX5.out.later T5.out, KY5.out.later T5.out⟩ : SetsAt _ (.agg #[.slice ax1 0 cx1, .slice ay1 2 cy1]) [] [kl, kk]).later q12) ⟨_, _, rfl, KeysAt.nil _, hm⟩
  rw [decide_eq_true rfl, decide_eq_true rfl] at h
  exact h)
 have Q1112 := hid q12
 clear q12
 go_wp2_with (first | (refine wpList_load_known rfl _ (.tmp 1) rfl _ rfl _ L1.out ?_) | (refine wpList_load_known rfl _ (.tmp 2) rfl _ rfl _ L2.out ?_) | (refine wpList_build_k2 rfl (.tmp 46) (.tmp 47) rfl kl kk rfl rfl ?_; rw [hA12]))
 clear hA11 hA12 L1 L2 u0 u1
 refine SM.out.mono ?_
 rintro _ w6 ⟨rfl, hb6⟩
 have hbb := Q1112.out.trans (hb6.mono Q1112.out.size)
 replace Q3 := hid (Q3.out.trans (hbb.mono Q3.out.size))
 replace T5 := hid (T5.out.trans (hbb.mono T5.out.size))
 replace T7 := hid (T7.out.trans (hbb.mono T7.out.size))
 replace T11 := hid (T11.out.trans (hbb.mono T11.out.size))
 clear SM Q1112 hb6 hbb
 have u0 := (HS5.out.later T5.out).cell 0 _ rfl
 have u1 := (HS5.out.later T5.out).cell 1 _ rfl
 have v0 := (HS7.out.later T7.out).cell 0 _ rfl
 have v1 := (HS7.out.later T7.out).cell 1 _ rfl
 have CC := hid (show Calls Try.prog 20 #[.agg #[.slice ax1 0 cx1, .slice ay1 2 cy1], .agg #[.slice ax2 1 cx2, .slice ay2 0 cy2]] w6 (fun e w' => e = .returned (.bool true) ∧ Below w6.heap.size w6 w') from by
   have h := kclash_any w6 _ _ _ _ _ _ (⟨_, _, rfl, KX5.out.later T5.out, KY5.out.later T5.out⟩ : SetsAt _ (.agg #[.slice ax1 0 cx1, .slice ay1 2 cy1]) [] [kl, kk]) (⟨_, _, rfl, KX7.out.later T7.out, KY7.out.later T7.out⟩ : SetsAt _ (.agg #[.slice ax2 1 cx2, .slice ay2 0 cy2]) [kk] []) (by decide) (by decide) (by decide) (by decide)
   exact h)
 go_wp2_with fail
 clear u0 u1 v0 v1
 refine CC.out.mono ?_
 rintro _ w7 ⟨rfl, hbx⟩
 replace Q3 := hid (Q3.out.trans (hbx.mono Q3.out.size))
 replace T5 := hid (T5.out.trans (hbx.mono T5.out.size))
 replace T7 := hid (T7.out.trans (hbx.mono T7.out.size))
 replace T11 := hid (T11.out.trans (hbx.mono T11.out.size))
 clear CC hbx
 have u0 := (HS5.out.later T5.out).cell 0 _ rfl
 have u1 := (HS5.out.later T5.out).cell 1 _ rfl
 have v0 := (HS7.out.later T7.out).cell 0 _ rfl
 have v1 := (HS7.out.later T7.out).cell 1 _ rfl
 have CC := hid (show Calls Try.prog 20 #[.agg #[.slice ax2 1 cx2, .slice ay2 0 cy2], .agg #[.slice ax1 0 cx1, .slice ay1 2 cy1]] w7 (fun e w' => e = .returned (.bool true) ∧ Below w7.heap.size w7 w') from by
   have h := kclash_any w7 _ _ _ _ _ _ (⟨_, _, rfl, KX7.out.later T7.out, KY7.out.later T7.out⟩ : SetsAt _ (.agg #[.slice ax2 1 cx2, .slice ay2 0 cy2]) [kk] []) (⟨_, _, rfl, KX5.out.later T5.out, KY5.out.later T5.out⟩ : SetsAt _ (.agg #[.slice ax1 0 cx1, .slice ay1 2 cy1]) [] [kl, kk]) (by decide) (by decide) (by decide) (by decide)
   exact h)
 go_wp2_with fail
 clear u0 u1 v0 v1
 refine CC.out.mono ?_
 rintro _ w8 ⟨rfl, hbx⟩
 replace Q3 := hid (Q3.out.trans (hbx.mono Q3.out.size))
 replace T5 := hid (T5.out.trans (hbx.mono T5.out.size))
 replace T7 := hid (T7.out.trans (hbx.mono T7.out.size))
 replace T11 := hid (T11.out.trans (hbx.mono T11.out.size))
 clear CC hbx
 have v0 := (HS7.out.later T7.out).cell 0 _ rfl
 have v1 := (HS7.out.later T7.out).cell 1 _ rfl
 have CC := hid (show Calls Try.prog 20 #[.agg #[.slice ax2 1 cx2, .slice ay2 0 cy2], .agg #[.slice ax2 1 cx2, .slice ay2 0 cy2]] w8 (fun e w' => e = .returned (.bool false) ∧ Below w8.heap.size w8 w') from by
   have h := kclash_any w8 _ _ _ _ _ _ (⟨_, _, rfl, KX7.out.later T7.out, KY7.out.later T7.out⟩ : SetsAt _ (.agg #[.slice ax2 1 cx2, .slice ay2 0 cy2]) [kk] []) (⟨_, _, rfl, KX7.out.later T7.out, KY7.out.later T7.out⟩ : SetsAt _ (.agg #[.slice ax2 1 cx2, .slice ay2 0 cy2]) [kk] []) (by decide) (by decide) (by decide) (by decide)
   exact h)
 go_wp2_with fail
 clear v0 v1
 refine CC.out.mono ?_
 rintro _ w9 ⟨rfl, hbx⟩
 replace Q3 := hid (Q3.out.trans (hbx.mono Q3.out.size))
 replace T5 := hid (T5.out.trans (hbx.mono T5.out.size))
 replace T7 := hid (T7.out.trans (hbx.mono T7.out.size))
 replace T11 := hid (T11.out.trans (hbx.mono T11.out.size))
 clear CC hbx
 have L1 := hid (HK1.out.later Q3.out).kyLoad
 have L2 := hid (HK2.out.later Q3.out).kyLoad
 have CC := hid (show Calls Try.prog 8 #[.agg (kyC kl), .agg (kyC kk)] w9 (fun e w' => e = .returned (.int .i64 (-1)) ∧ Below w9.heap.size w9 w') from by
   have h := korder_any w9 kl kk kl_ok kk_ok
   have e : kcmp kl kk = -1 := by kernel_rfl
   rw [e] at h
   exact h)
 go_wp2_with (first | (refine wpList_load_known rfl _ (.tmp 1) rfl _ rfl _ L1.out ?_) | (refine wpList_load_known rfl _ (.tmp 2) rfl _ rfl _ L2.out ?_))
 clear L1 L2
 refine CC.out.mono ?_
 rintro _ w10 ⟨rfl, hbx⟩
 replace Q3 := hid (Q3.out.trans (hbx.mono Q3.out.size))
 replace T5 := hid (T5.out.trans (hbx.mono T5.out.size))
 replace T7 := hid (T7.out.trans (hbx.mono T7.out.size))
 replace T11 := hid (T11.out.trans (hbx.mono T11.out.size))
 clear CC hbx
 have L1 := hid (HK1.out.later Q3.out).kyLoad
 have L2 := hid (HK2.out.later Q3.out).kyLoad
 have u0 := (HS5.out.later T5.out).cell 0 _ rfl
 have u1 := (HS5.out.later T5.out).cell 1 _ rfl
 have CC := hid (show Calls Try.prog 16 #[.agg #[.slice ax1 0 cx1, .slice ay1 2 cy1], .agg (kyC kk), .bool true] w10 (fun e w' => e = .returned (.bool true) ∧ Below w10.heap.size w10 w') from by
   have h := kmay_any w10 _ _ _ kk true kk_ok (⟨_, _, rfl, KX5.out.later T5.out, KY5.out.later T5.out⟩ : SetsAt _ (.agg #[.slice ax1 0 cx1, .slice ay1 2 cy1]) [] [kl, kk])
   exact h)
 go_wp2_with (first | (refine wpList_load_known rfl _ (.tmp 1) rfl _ rfl _ L1.out ?_) | (refine wpList_load_known rfl _ (.tmp 2) rfl _ rfl _ L2.out ?_))
 clear L1 L2 u0 u1
 refine CC.out.mono ?_
 rintro _ w11 ⟨rfl, hbx⟩
 replace Q3 := hid (Q3.out.trans (hbx.mono Q3.out.size))
 replace T5 := hid (T5.out.trans (hbx.mono T5.out.size))
 replace T7 := hid (T7.out.trans (hbx.mono T7.out.size))
 replace T11 := hid (T11.out.trans (hbx.mono T11.out.size))
 clear CC hbx
 have L1 := hid (HK1.out.later Q3.out).kyLoad
 have L2 := hid (HK2.out.later Q3.out).kyLoad
 have v0 := (HS7.out.later T7.out).cell 0 _ rfl
 have v1 := (HS7.out.later T7.out).cell 1 _ rfl
 have CC := hid (show Calls Try.prog 16 #[.agg #[.slice ax2 1 cx2, .slice ay2 0 cy2], .agg (kyC kk), .bool false] w11 (fun e w' => e = .returned (.bool true) ∧ Below w11.heap.size w11 w') from by
   have h := kmay_any w11 _ _ _ kk false kk_ok (⟨_, _, rfl, KX7.out.later T7.out, KY7.out.later T7.out⟩ : SetsAt _ (.agg #[.slice ax2 1 cx2, .slice ay2 0 cy2]) [kk] [])
   exact h)
 go_wp2_with (first | (refine wpList_load_known rfl _ (.tmp 1) rfl _ rfl _ L1.out ?_) | (refine wpList_load_known rfl _ (.tmp 2) rfl _ rfl _ L2.out ?_))
 clear L1 L2 v0 v1
 refine CC.out.mono ?_
 rintro _ w12 ⟨rfl, hbx⟩
 replace Q3 := hid (Q3.out.trans (hbx.mono Q3.out.size))
 replace T5 := hid (T5.out.trans (hbx.mono T5.out.size))
 replace T7 := hid (T7.out.trans (hbx.mono T7.out.size))
 replace T11 := hid (T11.out.trans (hbx.mono T11.out.size))
 clear CC hbx
 have L1 := hid (HK1.out.later Q3.out).kyLoad
 have L2 := hid (HK2.out.later Q3.out).kyLoad
 have v0 := (HS7.out.later T7.out).cell 0 _ rfl
 have v1 := (HS7.out.later T7.out).cell 1 _ rfl
 have CC := hid (show Calls Try.prog 16 #[.agg #[.slice ax2 1 cx2, .slice ay2 0 cy2], .agg (kyC kk), .bool true] w12 (fun e w' => e = .returned (.bool false) ∧ Below w12.heap.size w12 w') from by
   have h := kmay_any w12 _ _ _ kk true kk_ok (⟨_, _, rfl, KX7.out.later T7.out, KY7.out.later T7.out⟩ : SetsAt _ (.agg #[.slice ax2 1 cx2, .slice ay2 0 cy2]) [kk] [])
   exact h)
 go_wp2_with (first | (refine wpList_load_known rfl _ (.tmp 1) rfl _ rfl _ L1.out ?_) | (refine wpList_load_known rfl _ (.tmp 2) rfl _ rfl _ L2.out ?_))
 clear L1 L2 v0 v1
 refine CC.out.mono ?_
 rintro _ w13 ⟨rfl, hbx⟩
 replace Q3 := hid (Q3.out.trans (hbx.mono Q3.out.size))
 replace T5 := hid (T5.out.trans (hbx.mono T5.out.size))
 replace T7 := hid (T7.out.trans (hbx.mono T7.out.size))
 replace T11 := hid (T11.out.trans (hbx.mono T11.out.size))
 clear CC hbx
 have o0 := (HS11.out.later T11.out).cell 0 _ rfl
 have o1 := (HS11.out.later T11.out).cell 1 _ rfl
 have CC := hid (show Calls Try.prog 14 #[.agg #[.slice ax5 1 cx5, .slice ay5 2 cy5]] w13 (fun e w' => e = .returned (.bool true) ∧ Below w13.heap.size w13 w') from by
   have h := kright_any w13 _ _ _ (⟨_, _, rfl, KX11.out.later T11.out, KY11.out.later T11.out⟩ : SetsAt _ (.agg #[.slice ax5 1 cx5, .slice ay5 2 cy5]) [kk] [kl, kk])
   rw [fitK, fitA] at h
   exact h)
 go_wp2_with fail
 clear o0 o1
 refine CC.out.mono ?_
 rintro _ w14 ⟨rfl, hbx⟩
 replace Q3 := hid (Q3.out.trans (hbx.mono Q3.out.size))
 replace T5 := hid (T5.out.trans (hbx.mono T5.out.size))
 replace T7 := hid (T7.out.trans (hbx.mono T7.out.size))
 replace T11 := hid (T11.out.trans (hbx.mono T11.out.size))
 clear CC hbx
 have o0 := (HS11.out.later T11.out).cell 0 _ rfl
 have o1 := (HS11.out.later T11.out).cell 1 _ rfl
 have QF := hid (Qw3.out.trans (Q3.out.mono Qw3.out.size))
 go_wp2_with fail
 go_ret
 exact ⟨rfl, QF.out⟩
theorem built_at0 (x0 x1 x2 x3 x4 x5 x6 x7 x8 x9 x10 x11 x12 x13 x14 x15 x16 x17 x18 x19 : Value) : Try.prog.built 31 [(0, .agg #[x0, x1, x2, x3, x4, x5, x6, x7, x8, x9, x10, x11, x12, x13, x14, x15, x16, x17, x18, x19])] = some #[x0, x1, x2, x3, x4, x5, x6, x7, x8, x9, x10, x11, x12, x13, x14, x15, x16, x17, x18, x19, .bool false, .int .u64 0, .int .u64 0, .int .u64 0, .int .u64 0] := by kernel_rfl
theorem built_at (n : Nat) : Try.prog.built 31 [(0, .agg (adC n))] = some (kyC ⟨n, false, 0⟩) := by
 have h := built_at0 (.int .u8 ((adB n 0 : Nat) : Int)) (.int .u8 ((adB n 1 : Nat) : Int)) (.int .u8 ((adB n 2 : Nat) : Int)) (.int .u8 ((adB n 3 : Nat) : Int)) (.int .u8 ((adB n 4 : Nat) : Int)) (.int .u8 ((adB n 5 : Nat) : Int)) (.int .u8 ((adB n 6 : Nat) : Int)) (.int .u8 ((adB n 7 : Nat) : Int)) (.int .u8 ((adB n 8 : Nat) : Int)) (.int .u8 ((adB n 9 : Nat) : Int)) (.int .u8 ((adB n 10 : Nat) : Int)) (.int .u8 ((adB n 11 : Nat) : Int)) (.int .u8 ((adB n 12 : Nat) : Int)) (.int .u8 ((adB n 13 : Nat) : Int)) (.int .u8 ((adB n 14 : Nat) : Int)) (.int .u8 ((adB n 15 : Nat) : Int)) (.int .u8 ((adB n 16 : Nat) : Int)) (.int .u8 ((adB n 17 : Nat) : Int)) (.int .u8 ((adB n 18 : Nat) : Int)) (.int .u8 ((adB n 19 : Nat) : Int))
 have e1 : adC n = #[.int .u8 ((adB n 0 : Nat) : Int), .int .u8 ((adB n 1 : Nat) : Int), .int .u8 ((adB n 2 : Nat) : Int), .int .u8 ((adB n 3 : Nat) : Int), .int .u8 ((adB n 4 : Nat) : Int), .int .u8 ((adB n 5 : Nat) : Int), .int .u8 ((adB n 6 : Nat) : Int), .int .u8 ((adB n 7 : Nat) : Int), .int .u8 ((adB n 8 : Nat) : Int), .int .u8 ((adB n 9 : Nat) : Int), .int .u8 ((adB n 10 : Nat) : Int), .int .u8 ((adB n 11 : Nat) : Int), .int .u8 ((adB n 12 : Nat) : Int), .int .u8 ((adB n 13 : Nat) : Int), .int .u8 ((adB n 14 : Nat) : Int), .int .u8 ((adB n 15 : Nat) : Int), .int .u8 ((adB n 16 : Nat) : Int), .int .u8 ((adB n 17 : Nat) : Int), .int .u8 ((adB n 18 : Nat) : Int), .int .u8 ((adB n 19 : Nat) : Int)] := rfl
 have e2 : kyC ⟨n, false, 0⟩ = #[.int .u8 ((adB n 0 : Nat) : Int), .int .u8 ((adB n 1 : Nat) : Int), .int .u8 ((adB n 2 : Nat) : Int), .int .u8 ((adB n 3 : Nat) : Int), .int .u8 ((adB n 4 : Nat) : Int), .int .u8 ((adB n 5 : Nat) : Int), .int .u8 ((adB n 6 : Nat) : Int), .int .u8 ((adB n 7 : Nat) : Int), .int .u8 ((adB n 8 : Nat) : Int), .int .u8 ((adB n 9 : Nat) : Int), .int .u8 ((adB n 10 : Nat) : Int), .int .u8 ((adB n 11 : Nat) : Int), .int .u8 ((adB n 12 : Nat) : Int), .int .u8 ((adB n 13 : Nat) : Int), .int .u8 ((adB n 14 : Nat) : Int), .int .u8 ((adB n 15 : Nat) : Int), .int .u8 ((adB n 16 : Nat) : Int), .int .u8 ((adB n 17 : Nat) : Int), .int .u8 ((adB n 18 : Nat) : Int), .int .u8 ((adB n 19 : Nat) : Int), .bool false, .int .u64 0, .int .u64 0, .int .u64 0, .int .u64 0] := by kernel_rfl
 rw [e1, e2]
 exact h
theorem wpList_build_at {ops : Array Oper} {rest : List Oper} {o : Oper} {a : Act} {w : World} {Q : Exit → Act → World → Prop} (hw : Region.wanted o (yielded ops a.tmps) = true) (y : Operand) (ho : o.op = .build 31 #[(0, y)]) (ad cs : Array Value) (hb : Try.prog.built 31 [(0, .agg ad)] = some cs) (hy : a.eval y = .agg ad)
  (h : wpList Try.prog ops Q rest (a.put o.dst (.agg cs)) w) : wpList Try.prog ops Q (o :: rest) a w := by
 refine wpList_step fun K hK => ?_
 rw [if_pos hw]
 have e : Try.prog.built 31 (#[((0 : Nat), y)].map fun (i, x) => (i, a.eval x)).toList = some cs := by
  simp only [List.map_toArray, List.map_cons, List.map_nil, hy]
  exact hb
 refine wp_build 31 #[(0, y)] ho (by rw [e]; rfl) (hK _ _ ?_)
 rw [e]
 exact h
def pickN (c m : Int) : Int := (if c < 0 then -(c + 1) else c) % m
theorem pickN_range (c m : Int) (hm : 0 < m) : 0 ≤ pickN c m ∧ pickN c m < m := by
 unfold pickN
 exact ⟨Int.emod_nonneg _ (by omega), Int.emod_lt_of_pos _ hm⟩
theorem ofN_nat (n : Nat) : ofN (n : Int) = n := by unfold ofN; rw [if_neg (by omega)]; omega
theorem below_rowL {B g : Nat} {w0 w : World} (hb : Below B w0 w) (hBg : B ≤ g) (cs : Array Value) : Below B w0 (w.setRow g cs) :=
 hb.trans ⟨rfl, rfl, rfl, by simp [World.setRow], fun k hk => setRow_other w g k cs (by omega)⟩
theorem pick8_ret (c : Int) (hc : I64 c) (m : Int) (hm : 0 < m) (hm2 : m ≤ 4611686018427387903) : Ret Try.prog 60 #[.int .i64 c, .int .i64 m] (.int .i64 (pickN c m)) := by
 refine Ret.of_same fun w => ?_
 unfold I64 at hc
 unfold pickN
 by_cases h : c < 0
 ·rw [if_pos h]
  have h0 : (0 : Int) ≤ -(c + 1) := by omega
  have h1 : -(c + 1) < 9223372036854775808 := by omega
  have q0 := Int.emod_nonneg (-(c + 1)) (show m ≠ 0 by omega)
  have q1 := Int.emod_lt_of_pos (-(c + 1)) hm
  have e := Int.tmod_eq_emod_of_nonneg h0 (b := m)
  go_enter Try.func60, Try.ntmps60
  go_wp2
  go_ret
  exact ⟨rfl, rfl⟩
 ·rw [if_neg h]
  have q0 := Int.emod_nonneg c (show m ≠ 0 by omega)
  have q1 := Int.emod_lt_of_pos c hm
  have e := Int.tmod_eq_emod_of_nonneg (show 0 ≤ c by omega) (b := m)
  go_enter Try.func60, Try.ntmps60
  go_wp2
  go_ret
  exact ⟨rfl, rfl⟩
def adrN (k : Int) : Nat := k.toNat + (if 5 < k then 256 ^ 19 else 0)
theorem adrN_lt {k : Int} (h : k < 9) : adrN k < 256 ^ 20 := by
 unfold adrN
 split <;> omega
theorem adrN_low (m : Nat) (h : m ≤ 5) : adC (adrN (m : Int)) = #[.int .u8 0, .int .u8 0, .int .u8 0, .int .u8 0, .int .u8 0, .int .u8 0, .int .u8 0, .int .u8 0, .int .u8 0, .int .u8 0, .int .u8 0, .int .u8 0, .int .u8 0, .int .u8 0, .int .u8 0, .int .u8 0, .int .u8 0, .int .u8 0, .int .u8 0, .int .u8 (m : Int)] := by
 have e : adrN (m : Int) = m := by unfold adrN; rw [if_neg (by omega)]; omega
 rw [e]
 have h19 : adB m 19 = m := by unfold adB; omega
 have hj : ∀ j, j < 19 → adB m j = 0 := fun j hj => by
  unfold adB
  rw [Nat.div_eq_of_lt (Nat.lt_of_lt_of_le (show m < 256 by omega) (Nat.le_trans (by decide : 256 ≤ 256 ^ 1) (Nat.pow_le_pow_right (by decide) (by omega))))]
 have r : adC m = #[.int .u8 ((adB m 0 : Nat) : Int), .int .u8 ((adB m 1 : Nat) : Int), .int .u8 ((adB m 2 : Nat) : Int), .int .u8 ((adB m 3 : Nat) : Int), .int .u8 ((adB m 4 : Nat) : Int), .int .u8 ((adB m 5 : Nat) : Int), .int .u8 ((adB m 6 : Nat) : Int), .int .u8 ((adB m 7 : Nat) : Int), .int .u8 ((adB m 8 : Nat) : Int), .int .u8 ((adB m 9 : Nat) : Int), .int .u8 ((adB m 10 : Nat) : Int), .int .u8 ((adB m 11 : Nat) : Int), .int .u8 ((adB m 12 : Nat) : Int), .int .u8 ((adB m 13 : Nat) : Int), .int .u8 ((adB m 14 : Nat) : Int), .int .u8 ((adB m 15 : Nat) : Int), .int .u8 ((adB m 16 : Nat) : Int), .int .u8 ((adB m 17 : Nat) : Int), .int .u8 ((adB m 18 : Nat) : Int), .int .u8 ((adB m 19 : Nat) : Int)] := rfl
 rw [r, h19, hj 0 (by decide), hj 1 (by decide), hj 2 (by decide), hj 3 (by decide), hj 4 (by decide), hj 5 (by decide), hj 6 (by decide), hj 7 (by decide), hj 8 (by decide), hj 9 (by decide), hj 10 (by decide), hj 11 (by decide), hj 12 (by decide), hj 13 (by decide), hj 14 (by decide), hj 15 (by decide), hj 16 (by decide), hj 17 (by decide), hj 18 (by decide)]
 rfl
theorem adrN_high (m : Nat) (h : 5 < m) (h9 : m < 9) : adC (adrN (m : Int)) = #[.int .u8 1, .int .u8 0, .int .u8 0, .int .u8 0, .int .u8 0, .int .u8 0, .int .u8 0, .int .u8 0, .int .u8 0, .int .u8 0, .int .u8 0, .int .u8 0, .int .u8 0, .int .u8 0, .int .u8 0, .int .u8 0, .int .u8 0, .int .u8 0, .int .u8 0, .int .u8 (m : Int)] := by
 have e : adrN (m : Int) = m + 256 ^ 19 := by unfold adrN; rw [if_pos (by omega)]; omega
 rw [e]
 have h0 : adB (m + 256 ^ 19) 0 = 1 := by unfold adB; omega
 have h19 : adB (m + 256 ^ 19) 19 = m := by unfold adB; omega
 have hj : ∀ j, 0 < j → j < 19 → adB (m + 256 ^ 19) j = 0 := fun j h0 hj => by
  have hj' : j = 1 ∨ j = 2 ∨ j = 3 ∨ j = 4 ∨ j = 5 ∨ j = 6 ∨ j = 7 ∨ j = 8 ∨ j = 9 ∨ j = 10 ∨ j = 11 ∨ j = 12 ∨ j = 13 ∨ j = 14 ∨ j = 15 ∨ j = 16 ∨ j = 17 ∨ j = 18 := by omega
  unfold adB
  rcases hj' with rfl | rfl | rfl | rfl | rfl | rfl | rfl | rfl | rfl | rfl | rfl | rfl | rfl | rfl | rfl | rfl | rfl | rfl <;> omega
 have r : adC (m + 256 ^ 19) = #[.int .u8 ((adB (m + 256 ^ 19) 0 : Nat) : Int), .int .u8 ((adB (m + 256 ^ 19) 1 : Nat) : Int), .int .u8 ((adB (m + 256 ^ 19) 2 : Nat) : Int), .int .u8 ((adB (m + 256 ^ 19) 3 : Nat) : Int), .int .u8 ((adB (m + 256 ^ 19) 4 : Nat) : Int), .int .u8 ((adB (m + 256 ^ 19) 5 : Nat) : Int), .int .u8 ((adB (m + 256 ^ 19) 6 : Nat) : Int), .int .u8 ((adB (m + 256 ^ 19) 7 : Nat) : Int), .int .u8 ((adB (m + 256 ^ 19) 8 : Nat) : Int), .int .u8 ((adB (m + 256 ^ 19) 9 : Nat) : Int), .int .u8 ((adB (m + 256 ^ 19) 10 : Nat) : Int), .int .u8 ((adB (m + 256 ^ 19) 11 : Nat) : Int), .int .u8 ((adB (m + 256 ^ 19) 12 : Nat) : Int), .int .u8 ((adB (m + 256 ^ 19) 13 : Nat) : Int), .int .u8 ((adB (m + 256 ^ 19) 14 : Nat) : Int), .int .u8 ((adB (m + 256 ^ 19) 15 : Nat) : Int), .int .u8 ((adB (m + 256 ^ 19) 16 : Nat) : Int), .int .u8 ((adB (m + 256 ^ 19) 17 : Nat) : Int), .int .u8 ((adB (m + 256 ^ 19) 18 : Nat) : Int), .int .u8 ((adB (m + 256 ^ 19) 19 : Nat) : Int)] := rfl
 rw [r, h0, h19, hj 1 (by decide) (by decide), hj 2 (by decide) (by decide), hj 3 (by decide) (by decide), hj 4 (by decide) (by decide), hj 5 (by decide) (by decide), hj 6 (by decide) (by decide), hj 7 (by decide) (by decide), hj 8 (by decide) (by decide), hj 9 (by decide) (by decide), hj 10 (by decide) (by decide), hj 11 (by decide) (by decide), hj 12 (by decide) (by decide), hj 13 (by decide) (by decide), hj 14 (by decide) (by decide), hj 15 (by decide) (by decide), hj 16 (by decide) (by decide), hj 17 (by decide) (by decide), hj 18 (by decide) (by decide)]
 rfl
theorem addr8_any (W : World) (c : Int) (hc : I64 c) : Calls Try.prog 46 #[.int .i64 c] W fun e w' => e = .returned (.agg (adC (adrN (pickN c 9)))) ∧ Below W.heap.size W w' := by
 have PK := hid (pick8_ret c hc 9 (by decide) (by decide))
 obtain ⟨k0, k1⟩ := pickN_range c 9 (by decide)
 obtain ⟨m, hm⟩ : ∃ m : Nat, pickN c 9 = (m : Int) := ⟨(pickN c 9).toNat, by omega⟩
 rw [hm] at PK k0 k1 ⊢
 clear hm
 have hr := (Has.new W 26 #[.int .u8 0, .int .u8 0, .int .u8 0, .int .u8 0, .int .u8 0, .int .u8 0, .int .u8 0, .int .u8 0, .int .u8 0, .int .u8 0, .int .u8 0, .int .u8 0, .int .u8 0, .int .u8 0, .int .u8 0, .int .u8 0, .int .u8 0, .int .u8 0, .int .u8 0, .int .u8 0]).alloc (.cells #[.int .u8 0, .int .u8 0, .int .u8 0, .int .u8 0, .int .u8 0, .int .u8 0, .int .u8 0, .int .u8 0, .int .u8 0, .int .u8 0, .int .u8 0, .int .u8 0, .int .u8 0, .int .u8 0, .int .u8 0, .int .u8 0, .int .u8 0, .int .u8 0, .int .u8 0, .int .u8 0] 26)
 have ht := Has.new (W.alloc (.cells #[.int .u8 0, .int .u8 0, .int .u8 0, .int .u8 0, .int .u8 0, .int .u8 0, .int .u8 0, .int .u8 0, .int .u8 0, .int .u8 0, .int .u8 0, .int .u8 0, .int .u8 0, .int .u8 0, .int .u8 0, .int .u8 0, .int .u8 0, .int .u8 0, .int .u8 0, .int .u8 0] 26)) 26 #[.int .u8 0, .int .u8 0, .int .u8 0, .int .u8 0, .int .u8 0, .int .u8 0, .int .u8 0, .int .u8 0, .int .u8 0, .int .u8 0, .int .u8 0, .int .u8 0, .int .u8 0, .int .u8 0, .int .u8 0, .int .u8 0, .int .u8 0, .int .u8 0, .int .u8 0, .int .u8 0]
 simp only [World.size_alloc] at ht
 have q0 := (newA W (.cells #[.int .u8 0, .int .u8 0, .int .u8 0, .int .u8 0, .int .u8 0, .int .u8 0, .int .u8 0, .int .u8 0, .int .u8 0, .int .u8 0, .int .u8 0, .int .u8 0, .int .u8 0, .int .u8 0, .int .u8 0, .int .u8 0, .int .u8 0, .int .u8 0, .int .u8 0, .int .u8 0] 26)).alloc (by simp) (.cells #[.int .u8 0, .int .u8 0, .int .u8 0, .int .u8 0, .int .u8 0, .int .u8 0, .int .u8 0, .int .u8 0, .int .u8 0, .int .u8 0, .int .u8 0, .int .u8 0, .int .u8 0, .int .u8 0, .int .u8 0, .int .u8 0, .int .u8 0, .int .u8 0, .int .u8 0, .int .u8 0] 26)
 obtain ⟨V, hV⟩ : ∃ V, (W.alloc (.cells #[.int .u8 0, .int .u8 0, .int .u8 0, .int .u8 0, .int .u8 0, .int .u8 0, .int .u8 0, .int .u8 0, .int .u8 0, .int .u8 0, .int .u8 0, .int .u8 0, .int .u8 0, .int .u8 0, .int .u8 0, .int .u8 0, .int .u8 0, .int .u8 0, .int .u8 0, .int .u8 0] 26)).alloc (.cells #[.int .u8 0, .int .u8 0, .int .u8 0, .int .u8 0, .int .u8 0, .int .u8 0, .int .u8 0, .int .u8 0, .int .u8 0, .int .u8 0, .int .u8 0, .int .u8 0, .int .u8 0, .int .u8 0, .int .u8 0, .int .u8 0, .int .u8 0, .int .u8 0, .int .u8 0, .int .u8 0] 26) = V := ⟨_, rfl⟩
 rw [hV] at hr ht q0
 have HR := hid hr
 have HT := hid ht
 have Q := hid q0
 have HM := hid (show m < 9 by omega)
 have hw : IntKind.u8.wrap (m : Int) = (m : Int) := by rw [IntKind.wrap_u8]; omega
 clear hr ht q0 k0 k1
 go_enter Try.func46, Try.ntmps46
 go_wp2_with fail
 clear hV
 refine (PK.out _).mono ?_
 rintro _ w1 ⟨rfl, hb1⟩
 have Q1 := hid (Q.out.trans (hb1.mono Q.out.size))
 have hr := HR.out.later hb1
 have ht := HT.out.later hb1
 have c19 := ht.cell 19 _ rfl
 have f19 := ht.frozen 19
 clear hb1 HR HT PK Q
 have hr1 := hr.other (p := ⟨W.heap.size + 1, 19, none⟩) (by simp) (.int .u8 (m : Int))
 have ht1 := ht.set 19 (.int .u8 (m : Int))
 have q1 := Q1.out.setCell (p := ⟨W.heap.size + 1, 19, none⟩) (by simp) (.int .u8 (m : Int))
 obtain ⟨U, hU⟩ : ∃ U, w1.setCell ⟨W.heap.size + 1, 19, none⟩ (.int .u8 (m : Int)) = U := ⟨_, rfl⟩
 rw [hU] at hr1 ht1 q1
 replace ht1 : Has U (W.heap.size + 1) 26 #[.int .u8 0, .int .u8 0, .int .u8 0, .int .u8 0, .int .u8 0, .int .u8 0, .int .u8 0, .int .u8 0, .int .u8 0, .int .u8 0, .int .u8 0, .int .u8 0, .int .u8 0, .int .u8 0, .int .u8 0, .int .u8 0, .int .u8 0, .int .u8 0, .int .u8 0, .int .u8 (m : Int)] := ht1
 by_cases hm5 : m ≤ 5
 ·have h5I : ¬ (5 : Int) < (m : Int) := by omega
  have h5N : ¬ 5 < m := by omega
  have LD := run_loadVar_row (P := Try.prog) U (W.heap.size + 1) 26 26 _ (0, 0) _ ht1 Try.underlying26 rfl infoAd
  have hF : Has (U.setRow W.heap.size #[.int .u8 0, .int .u8 0, .int .u8 0, .int .u8 0, .int .u8 0, .int .u8 0, .int .u8 0, .int .u8 0, .int .u8 0, .int .u8 0, .int .u8 0, .int .u8 0, .int .u8 0, .int .u8 0, .int .u8 0, .int .u8 0, .int .u8 0, .int .u8 0, .int .u8 0, .int .u8 (m : Int)]) W.heap.size 26 #[.int .u8 0, .int .u8 0, .int .u8 0, .int .u8 0, .int .u8 0, .int .u8 0, .int .u8 0, .int .u8 0, .int .u8 0, .int .u8 0, .int .u8 0, .int .u8 0, .int .u8 0, .int .u8 0, .int .u8 0, .int .u8 0, .int .u8 0, .int .u8 0, .int .u8 0, .int .u8 (m : Int)] := setRow_heap _ _ _ _ _ _ hr1
  have qF := hid (below_rowL q1 (g := W.heap.size) (Nat.le_refl _) #[.int .u8 0, .int .u8 0, .int .u8 0, .int .u8 0, .int .u8 0, .int .u8 0, .int .u8 0, .int .u8 0, .int .u8 0, .int .u8 0, .int .u8 0, .int .u8 0, .int .u8 0, .int .u8 0, .int .u8 0, .int .u8 0, .int .u8 0, .int .u8 0, .int .u8 0, .int .u8 (m : Int)])
  have HO := hid (show (#[.int .u8 0, .int .u8 0, .int .u8 0, .int .u8 0, .int .u8 0, .int .u8 0, .int .u8 0, .int .u8 0, .int .u8 0, .int .u8 0, .int .u8 0, .int .u8 0, .int .u8 0, .int .u8 0, .int .u8 0, .int .u8 0, .int .u8 0, .int .u8 0, .int .u8 0, .int .u8 (m : Int)] : Array Value).all (·.oneCell') = true from by simp [Value.oneCell'])
  have HL := hid LD
  have HRR := hid hr1
  have HFF := hid hF
  have HAD := hid (adrN_low m hm5)
  clear LD hF hr ht hr1 ht1 q1 hm5
  go_wp2_with (first | (refine wpList_load_known rfl _ (.tmp 3) rfl _ rfl _ HL.out ?_) | (refine wpList_store_row rfl _ (.tmp 2) (.tmp 13) rfl _ _ rfl rfl _ _ HRR.out infoAd rfl HO.out ?_))
  try simp only [Exit.inBlock, Exit.then]
  refine bodyPost_ret (results_cell_row rfl _ _ W.heap.size 26 _ (0, 0) _ rfl HFF.out Try.underlying26 rfl infoAd) rfl ?_
  exact ⟨by rw [HAD.out], qF.out⟩
 ·have h5I : (5 : Int) < (m : Int) := by omega
  have h5N : 5 < m := by omega
  have c0 := ht1.cell 0 _ rfl
  have f0 := ht1.frozen 0
  have hr2 := hr1.other (p := ⟨W.heap.size + 1, 0, none⟩) (by simp) (.int .u8 1)
  have ht2 := ht1.set 0 (.int .u8 1)
  have q2 := q1.setCell (p := ⟨W.heap.size + 1, 0, none⟩) (by simp) (.int .u8 1)
  obtain ⟨U2, hU2⟩ : ∃ U2, U.setCell ⟨W.heap.size + 1, 0, none⟩ (.int .u8 1) = U2 := ⟨_, rfl⟩
  rw [hU2] at hr2 ht2 q2
  replace ht2 : Has U2 (W.heap.size + 1) 26 #[.int .u8 1, .int .u8 0, .int .u8 0, .int .u8 0, .int .u8 0, .int .u8 0, .int .u8 0, .int .u8 0, .int .u8 0, .int .u8 0, .int .u8 0, .int .u8 0, .int .u8 0, .int .u8 0, .int .u8 0, .int .u8 0, .int .u8 0, .int .u8 0, .int .u8 0, .int .u8 (m : Int)] := ht2
  have LD := run_loadVar_row (P := Try.prog) U2 (W.heap.size + 1) 26 26 _ (0, 0) _ ht2 Try.underlying26 rfl infoAd
  have hF : Has (U2.setRow W.heap.size #[.int .u8 1, .int .u8 0, .int .u8 0, .int .u8 0, .int .u8 0, .int .u8 0, .int .u8 0, .int .u8 0, .int .u8 0, .int .u8 0, .int .u8 0, .int .u8 0, .int .u8 0, .int .u8 0, .int .u8 0, .int .u8 0, .int .u8 0, .int .u8 0, .int .u8 0, .int .u8 (m : Int)]) W.heap.size 26 #[.int .u8 1, .int .u8 0, .int .u8 0, .int .u8 0, .int .u8 0, .int .u8 0, .int .u8 0, .int .u8 0, .int .u8 0, .int .u8 0, .int .u8 0, .int .u8 0, .int .u8 0, .int .u8 0, .int .u8 0, .int .u8 0, .int .u8 0, .int .u8 0, .int .u8 0, .int .u8 (m : Int)] := setRow_heap _ _ _ _ _ _ hr2
  have qF := hid (below_rowL q2 (g := W.heap.size) (Nat.le_refl _) #[.int .u8 1, .int .u8 0, .int .u8 0, .int .u8 0, .int .u8 0, .int .u8 0, .int .u8 0, .int .u8 0, .int .u8 0, .int .u8 0, .int .u8 0, .int .u8 0, .int .u8 0, .int .u8 0, .int .u8 0, .int .u8 0, .int .u8 0, .int .u8 0, .int .u8 0, .int .u8 (m : Int)])
  have HO := hid (show (#[.int .u8 1, .int .u8 0, .int .u8 0, .int .u8 0, .int .u8 0, .int .u8 0, .int .u8 0, .int .u8 0, .int .u8 0, .int .u8 0, .int .u8 0, .int .u8 0, .int .u8 0, .int .u8 0, .int .u8 0, .int .u8 0, .int .u8 0, .int .u8 0, .int .u8 0, .int .u8 (m : Int)] : Array Value).all (·.oneCell') = true from by simp [Value.oneCell'])
  have HL := hid LD
  have HRR := hid hr2
  have HFF := hid hF
  have HAD := hid (adrN_high m h5N HM.out)
  clear LD hF hr ht hr1 ht1 q1 hr2 ht2 q2 hm5
  go_wp2_with (first | (refine wpList_load_known rfl _ (.tmp 3) rfl _ rfl _ HL.out ?_) | (refine wpList_store_row rfl _ (.tmp 2) (.tmp 13) rfl _ _ rfl rfl _ _ HRR.out infoAd rfl HO.out ?_))
  try simp only [Exit.inBlock, Exit.then]
  refine bodyPost_ret (results_cell_row rfl _ _ W.heap.size 26 _ (0, 0) _ rfl HFF.out Try.underlying26 rfl infoAd) rfl ?_
  exact ⟨by rw [HAD.out], qF.out⟩
end
section
open Go Go.RowKit
attribute [local go_sem] Oper.semAt_some Grows wide_fn
theorem pick10_ret (c : Int) (hc : I64 c) (m : Int) (hm : 0 < m) (hm2 : m ≤ 4611686018427387903) : Ret Try.prog 6 #[.int .i64 c, .int .i64 m] (.int .i64 (pickN c m)) := by
 refine Ret.of_same fun w => ?_
 unfold I64 at hc
 unfold pickN
 by_cases h : c < 0
 ·rw [if_pos h]
  have h0 : (0 : Int) ≤ -(c + 1) := by omega
  have h1 : -(c + 1) < 9223372036854775808 := by omega
  have q0 := Int.emod_nonneg (-(c + 1)) (show m ≠ 0 by omega)
  have q1 := Int.emod_lt_of_pos (-(c + 1)) hm
  have e := Int.tmod_eq_emod_of_nonneg h0 (b := m)
  go_enter Try.func6, Try.ntmps6
  go_wp2
  go_ret
  exact ⟨rfl, rfl⟩
 ·rw [if_neg h]
  have q0 := Int.emod_nonneg c (show m ≠ 0 by omega)
  have q1 := Int.emod_lt_of_pos c hm
  have e := Int.tmod_eq_emod_of_nonneg (show 0 ≤ c by omega) (b := m)
  go_enter Try.func6, Try.ntmps6
  go_wp2
  go_ret
  exact ⟨rfl, rfl⟩
end
section
open Go Go.RowKit
attribute [local go_sem] Oper.semAt_some Grows wide_fn
theorem built_key0 (x0 x1 x2 x3 x4 x5 x6 x7 x8 x9 x10 x11 x12 x13 x14 x15 x16 x17 x18 x19 _b y0 y1 y2 y3 : Value) : Try.prog.built 31 [(0, .agg #[x0, x1, x2, x3, x4, x5, x6, x7, x8, x9, x10, x11, x12, x13, x14, x15, x16, x17, x18, x19]), (1, .bool true), (2, .agg #[y0, y1, y2, y3])] = some #[x0, x1, x2, x3, x4, x5, x6, x7, x8, x9, x10, x11, x12, x13, x14, x15, x16, x17, x18, x19, .bool true, y0, y1, y2, y3] := by kernel_rfl
theorem built_key (n m : Nat) : Try.prog.built 31 [(0, .agg (adC n)), (1, .bool true), (2, wv m)] = some (kyC ⟨n, true, m⟩) := by
 have h := built_key0 (.int .u8 ((adB n 0 : Nat) : Int)) (.int .u8 ((adB n 1 : Nat) : Int)) (.int .u8 ((adB n 2 : Nat) : Int)) (.int .u8 ((adB n 3 : Nat) : Int)) (.int .u8 ((adB n 4 : Nat) : Int)) (.int .u8 ((adB n 5 : Nat) : Int)) (.int .u8 ((adB n 6 : Nat) : Int)) (.int .u8 ((adB n 7 : Nat) : Int)) (.int .u8 ((adB n 8 : Nat) : Int)) (.int .u8 ((adB n 9 : Nat) : Int)) (.int .u8 ((adB n 10 : Nat) : Int)) (.int .u8 ((adB n 11 : Nat) : Int)) (.int .u8 ((adB n 12 : Nat) : Int)) (.int .u8 ((adB n 13 : Nat) : Int)) (.int .u8 ((adB n 14 : Nat) : Int)) (.int .u8 ((adB n 15 : Nat) : Int)) (.int .u8 ((adB n 16 : Nat) : Int)) (.int .u8 ((adB n 17 : Nat) : Int)) (.int .u8 ((adB n 18 : Nat) : Int)) (.int .u8 ((adB n 19 : Nat) : Int)) (.bool true) (.int .u64 (lim m 0)) (.int .u64 (lim m 1)) (.int .u64 (lim m 2)) (.int .u64 (lim m 3))
 have e1 : adC n = #[.int .u8 ((adB n 0 : Nat) : Int), .int .u8 ((adB n 1 : Nat) : Int), .int .u8 ((adB n 2 : Nat) : Int), .int .u8 ((adB n 3 : Nat) : Int), .int .u8 ((adB n 4 : Nat) : Int), .int .u8 ((adB n 5 : Nat) : Int), .int .u8 ((adB n 6 : Nat) : Int), .int .u8 ((adB n 7 : Nat) : Int), .int .u8 ((adB n 8 : Nat) : Int), .int .u8 ((adB n 9 : Nat) : Int), .int .u8 ((adB n 10 : Nat) : Int), .int .u8 ((adB n 11 : Nat) : Int), .int .u8 ((adB n 12 : Nat) : Int), .int .u8 ((adB n 13 : Nat) : Int), .int .u8 ((adB n 14 : Nat) : Int), .int .u8 ((adB n 15 : Nat) : Int), .int .u8 ((adB n 16 : Nat) : Int), .int .u8 ((adB n 17 : Nat) : Int), .int .u8 ((adB n 18 : Nat) : Int), .int .u8 ((adB n 19 : Nat) : Int)] := rfl
 have e2 : kyC ⟨n, true, m⟩ = #[.int .u8 ((adB n 0 : Nat) : Int), .int .u8 ((adB n 1 : Nat) : Int), .int .u8 ((adB n 2 : Nat) : Int), .int .u8 ((adB n 3 : Nat) : Int), .int .u8 ((adB n 4 : Nat) : Int), .int .u8 ((adB n 5 : Nat) : Int), .int .u8 ((adB n 6 : Nat) : Int), .int .u8 ((adB n 7 : Nat) : Int), .int .u8 ((adB n 8 : Nat) : Int), .int .u8 ((adB n 9 : Nat) : Int), .int .u8 ((adB n 10 : Nat) : Int), .int .u8 ((adB n 11 : Nat) : Int), .int .u8 ((adB n 12 : Nat) : Int), .int .u8 ((adB n 13 : Nat) : Int), .int .u8 ((adB n 14 : Nat) : Int), .int .u8 ((adB n 15 : Nat) : Int), .int .u8 ((adB n 16 : Nat) : Int), .int .u8 ((adB n 17 : Nat) : Int), .int .u8 ((adB n 18 : Nat) : Int), .int .u8 ((adB n 19 : Nat) : Int), .bool true, .int .u64 (lim m 0), .int .u64 (lim m 1), .int .u64 (lim m 2), .int .u64 (lim m 3)] := rfl
 rw [e1, e2]
 exact h
theorem wpList_build_key {ops : Array Oper} {rest : List Oper} {o : Oper} {a : Act} {w : World} {Q : Exit → Act → World → Prop} (hw : Region.wanted o (yielded ops a.tmps) = true) (y z : Operand) (ho : o.op = .build 31 #[(0, y), (1, .const (.bool true)), (2, z)]) (ad cs : Array Value) (v : Value) (hb : Try.prog.built 31 [(0, .agg ad), (1, .bool true), (2, v)] = some cs) (hy : a.eval y = .agg ad) (hz : a.eval z = v)
  (h : wpList Try.prog ops Q rest (a.put o.dst (.agg cs)) w) : wpList Try.prog ops Q (o :: rest) a w := by
 refine wpList_step fun K hK => ?_
 rw [if_pos hw]
 have e : Try.prog.built 31 (#[((0 : Nat), y), (1, .const (.bool true)), (2, z)].map fun (i, x) => (i, a.eval x)).toList = some cs := by
  simp only [List.map_toArray, List.map_cons, List.map_nil, hy, hz]
  exact hb
 refine wp_build 31 #[(0, y), (1, .const (.bool true)), (2, z)] ho (by rw [e]; rfl) (hK _ _ ?_)
 rw [e]
 exact h
def keyN (c d : Int) : Ky := if pickN d 5 = 0 then ⟨adrN (pickN c 9), false, 0⟩ else ⟨adrN (pickN c 9), true, (pickN d 5 - 1).toNat⟩
theorem keyN_ok (c d : Int) : KyOk (keyN c d) := by
 have h := pickN_range c 9 (by decide)
 have g := pickN_range d 5 (by decide)
 unfold keyN
 split
 ·exact ⟨adrN_lt h.2, by show W256 0; unfold W256; omega⟩
 ·exact ⟨adrN_lt h.2, by show W256 ((pickN d 5 - 1).toNat); unfold W256; omega⟩
theorem key10_any (W : World) (c d : Int) (hc : I64 c) (hd : I64 d) : Calls Try.prog 25 #[.int .i64 c, .int .i64 d] W fun e w' => e = .returned (.agg (kyC (keyN c d))) ∧ Below W.heap.size W w' := by
 have PK := hid (pick10_ret d hd 5 (by decide) (by decide))
 have AD := hid (fun X => addr8_any X c hc)
 obtain ⟨j0, j1⟩ := pickN_range d 5 (by decide)
 have hkn : ∀ j, pickN d 5 = j → keyN c d = if j = 0 then ⟨adrN (pickN c 9), false, 0⟩ else ⟨adrN (pickN c 9), true, (j - 1).toNat⟩ := fun j h => by unfold keyN; rw [h]
 obtain ⟨j, hj⟩ : ∃ j, pickN d 5 = j := ⟨_, rfl⟩
 replace hkn := hid (hkn j hj)
 rw [hj] at PK j0 j1
 clear hj
 obtain ⟨k, hk⟩ : ∃ k, keyN c d = k := ⟨_, rfl⟩
 rw [hk] at hkn ⊢
 clear hk
 generalize adrN (pickN c 9) = n at *
 have B1 := hid (built_at n)
 have B2 := hid (fun m => built_key n m)
 obtain ⟨V, hV, hb, q0⟩ := newK0 W
 have HB := hid hb
 have Q := hid q0
 clear hb q0
 go_enter Try.func25, Try.ntmps25
 go_wp2_with fail
 clear hV
 refine (PK.out _).mono ?_
 rintro _ w1 ⟨rfl, hb1⟩
 have Q1 := hid (Q.out.trans (hb1.mono Q.out.size))
 have H1 := hid (HB.out.later hb1)
 clear hb1 HB PK Q
 have hjj : j = 0 ∨ j = 1 ∨ j = 2 ∨ j = 3 ∨ j = 4 := by omega
 clear j0 j1
 rcases hjj with rfl | rfl | rfl | rfl | rfl
 ·go_wp2_with fail
  refine (AD.out _).mono ?_
  rintro _ w2 ⟨rfl, hb2⟩
  have Q2 := hid (Q1.out.trans (hb2.mono Q1.out.size))
  have H2 := hid (H1.out.later hb2)
  clear hb2
  have hF : Has (w2.setRow W.heap.size (kyC ⟨n, false, 0⟩)) W.heap.size 31 (kyC ⟨n, false, 0⟩) := setRow_heap _ _ _ _ _ _ H2.out
  have HF := hid hF
  have qF := hid (below_rowK Q2.out (g := W.heap.size) (Nat.le_refl _) (kyC ⟨n, false, 0⟩))
  have hi : (Try.prog.info? 31).map (·.size) = some (kyC ⟨n, false, 0⟩).size := by rw [kyC_size]; exact infoKy
  have HI := hid hi
  have HS := hid (show (#[.int .u8 0, .int .u8 0, .int .u8 0, .int .u8 0, .int .u8 0, .int .u8 0, .int .u8 0, .int .u8 0, .int .u8 0, .int .u8 0, .int .u8 0, .int .u8 0, .int .u8 0, .int .u8 0, .int .u8 0, .int .u8 0, .int .u8 0, .int .u8 0, .int .u8 0, .int .u8 0, .bool false, .int .u64 0, .int .u64 0, .int .u64 0, .int .u64 0] : Array Value).size = (kyC ⟨n, false, 0⟩).size by rw [kyC_size]; rfl)
  have HO := hid (kyC_one ⟨n, false, 0⟩)
  clear hF hi
  go_wp2_with (first | (refine wpList_build_at rfl (.tmp 11) rfl _ _ B1.out rfl ?_) | (refine wpList_store_row rfl _ (.tmp 4) (.tmp 12) rfl _ _ rfl rfl _ _ H2.out HI.out HS.out HO.out ?_))
  try simp only [Exit.inBlock, Exit.then]
  refine bodyPost_ret (results_cell_row rfl _ _ W.heap.size 31 _ (0, 0) _ rfl HF.out Try.underlying31 rfl HI.out) rfl ?_
  exact ⟨by rw [hkn.out]; rfl, qF.out⟩
 ·have OF := hid (fun X => refOf_ret 0 (by unfold I64; omega) X)
  have eo : ofN 0 = 0 := by decide
  rw [eo] at OF
  go_wp2_with fail
  refine (AD.out _).mono ?_
  rintro _ w2 ⟨rfl, hb2⟩
  have Q2 := hid (Q1.out.trans (hb2.mono Q1.out.size))
  have H2 := hid (H1.out.later hb2)
  clear hb2
  go_wp2_with fail
  refine (OF.out _).mono ?_
  rintro _ w3 ⟨rfl, hb3⟩
  have Q3 := hid (Q2.out.trans (hb3.mono Q2.out.size))
  have H3 := hid (H2.out.later hb3)
  clear hb3
  have hF : Has (w3.setRow W.heap.size (kyC ⟨n, true, 0⟩)) W.heap.size 31 (kyC ⟨n, true, 0⟩) := setRow_heap _ _ _ _ _ _ H3.out
  have HF := hid hF
  have qF := hid (below_rowK Q3.out (g := W.heap.size) (Nat.le_refl _) (kyC ⟨n, true, 0⟩))
  have hi : (Try.prog.info? 31).map (·.size) = some (kyC ⟨n, true, 0⟩).size := by rw [kyC_size]; exact infoKy
  have HI := hid hi
  have HS := hid (show (#[.int .u8 0, .int .u8 0, .int .u8 0, .int .u8 0, .int .u8 0, .int .u8 0, .int .u8 0, .int .u8 0, .int .u8 0, .int .u8 0, .int .u8 0, .int .u8 0, .int .u8 0, .int .u8 0, .int .u8 0, .int .u8 0, .int .u8 0, .int .u8 0, .int .u8 0, .int .u8 0, .bool false, .int .u64 0, .int .u64 0, .int .u64 0, .int .u64 0] : Array Value).size = (kyC ⟨n, true, 0⟩).size by rw [kyC_size]; rfl)
  have HO := hid (kyC_one ⟨n, true, 0⟩)
  clear hF hi
  go_wp2_with (first | (refine wpList_build_key rfl (.tmp 14) (.tmp 17) rfl _ _ _ (B2.out 0) rfl rfl ?_) | (refine wpList_store_row rfl _ (.tmp 4) (.tmp 18) rfl _ _ rfl rfl _ _ H3.out HI.out HS.out HO.out ?_))
  try simp only [Exit.inBlock, Exit.then]
  refine bodyPost_ret (results_cell_row rfl _ _ W.heap.size 31 _ (0, 0) _ rfl HF.out Try.underlying31 rfl HI.out) rfl ?_
  exact ⟨by rw [hkn.out]; rfl, qF.out⟩
 ·have OF := hid (fun X => refOf_ret 1 (by unfold I64; omega) X)
  have eo : ofN 1 = 1 := by decide
  rw [eo] at OF
  go_wp2_with fail
  refine (AD.out _).mono ?_
  rintro _ w2 ⟨rfl, hb2⟩
  have Q2 := hid (Q1.out.trans (hb2.mono Q1.out.size))
  have H2 := hid (H1.out.later hb2)
  clear hb2
  go_wp2_with fail
  refine (OF.out _).mono ?_
  rintro _ w3 ⟨rfl, hb3⟩
  have Q3 := hid (Q2.out.trans (hb3.mono Q2.out.size))
  have H3 := hid (H2.out.later hb3)
  clear hb3
  have hF : Has (w3.setRow W.heap.size (kyC ⟨n, true, 1⟩)) W.heap.size 31 (kyC ⟨n, true, 1⟩) := setRow_heap _ _ _ _ _ _ H3.out
  have HF := hid hF
  have qF := hid (below_rowK Q3.out (g := W.heap.size) (Nat.le_refl _) (kyC ⟨n, true, 1⟩))
  have hi : (Try.prog.info? 31).map (·.size) = some (kyC ⟨n, true, 1⟩).size := by rw [kyC_size]; exact infoKy
  have HI := hid hi
  have HS := hid (show (#[.int .u8 0, .int .u8 0, .int .u8 0, .int .u8 0, .int .u8 0, .int .u8 0, .int .u8 0, .int .u8 0, .int .u8 0, .int .u8 0, .int .u8 0, .int .u8 0, .int .u8 0, .int .u8 0, .int .u8 0, .int .u8 0, .int .u8 0, .int .u8 0, .int .u8 0, .int .u8 0, .bool false, .int .u64 0, .int .u64 0, .int .u64 0, .int .u64 0] : Array Value).size = (kyC ⟨n, true, 1⟩).size by rw [kyC_size]; rfl)
  have HO := hid (kyC_one ⟨n, true, 1⟩)
  clear hF hi
  go_wp2_with (first | (refine wpList_build_key rfl (.tmp 14) (.tmp 17) rfl _ _ _ (B2.out 1) rfl rfl ?_) | (refine wpList_store_row rfl _ (.tmp 4) (.tmp 18) rfl _ _ rfl rfl _ _ H3.out HI.out HS.out HO.out ?_))
  try simp only [Exit.inBlock, Exit.then]
  refine bodyPost_ret (results_cell_row rfl _ _ W.heap.size 31 _ (0, 0) _ rfl HF.out Try.underlying31 rfl HI.out) rfl ?_
  exact ⟨by rw [hkn.out]; rfl, qF.out⟩
 ·have OF := hid (fun X => refOf_ret 2 (by unfold I64; omega) X)
  have eo : ofN 2 = 2 := by decide
  rw [eo] at OF
  go_wp2_with fail
  refine (AD.out _).mono ?_
  rintro _ w2 ⟨rfl, hb2⟩
  have Q2 := hid (Q1.out.trans (hb2.mono Q1.out.size))
  have H2 := hid (H1.out.later hb2)
  clear hb2
  go_wp2_with fail
  refine (OF.out _).mono ?_
  rintro _ w3 ⟨rfl, hb3⟩
  have Q3 := hid (Q2.out.trans (hb3.mono Q2.out.size))
  have H3 := hid (H2.out.later hb3)
  clear hb3
  have hF : Has (w3.setRow W.heap.size (kyC ⟨n, true, 2⟩)) W.heap.size 31 (kyC ⟨n, true, 2⟩) := setRow_heap _ _ _ _ _ _ H3.out
  have HF := hid hF
  have qF := hid (below_rowK Q3.out (g := W.heap.size) (Nat.le_refl _) (kyC ⟨n, true, 2⟩))
  have hi : (Try.prog.info? 31).map (·.size) = some (kyC ⟨n, true, 2⟩).size := by rw [kyC_size]; exact infoKy
  have HI := hid hi
  have HS := hid (show (#[.int .u8 0, .int .u8 0, .int .u8 0, .int .u8 0, .int .u8 0, .int .u8 0, .int .u8 0, .int .u8 0, .int .u8 0, .int .u8 0, .int .u8 0, .int .u8 0, .int .u8 0, .int .u8 0, .int .u8 0, .int .u8 0, .int .u8 0, .int .u8 0, .int .u8 0, .int .u8 0, .bool false, .int .u64 0, .int .u64 0, .int .u64 0, .int .u64 0] : Array Value).size = (kyC ⟨n, true, 2⟩).size by rw [kyC_size]; rfl)
  have HO := hid (kyC_one ⟨n, true, 2⟩)
  clear hF hi
  go_wp2_with (first | (refine wpList_build_key rfl (.tmp 14) (.tmp 17) rfl _ _ _ (B2.out 2) rfl rfl ?_) | (refine wpList_store_row rfl _ (.tmp 4) (.tmp 18) rfl _ _ rfl rfl _ _ H3.out HI.out HS.out HO.out ?_))
  try simp only [Exit.inBlock, Exit.then]
  refine bodyPost_ret (results_cell_row rfl _ _ W.heap.size 31 _ (0, 0) _ rfl HF.out Try.underlying31 rfl HI.out) rfl ?_
  exact ⟨by rw [hkn.out]; rfl, qF.out⟩
 ·have OF := hid (fun X => refOf_ret 3 (by unfold I64; omega) X)
  have eo : ofN 3 = 3 := by decide
  rw [eo] at OF
  go_wp2_with fail
  refine (AD.out _).mono ?_
  rintro _ w2 ⟨rfl, hb2⟩
  have Q2 := hid (Q1.out.trans (hb2.mono Q1.out.size))
  have H2 := hid (H1.out.later hb2)
  clear hb2
  go_wp2_with fail
  refine (OF.out _).mono ?_
  rintro _ w3 ⟨rfl, hb3⟩
  have Q3 := hid (Q2.out.trans (hb3.mono Q2.out.size))
  have H3 := hid (H2.out.later hb3)
  clear hb3
  have hF : Has (w3.setRow W.heap.size (kyC ⟨n, true, 3⟩)) W.heap.size 31 (kyC ⟨n, true, 3⟩) := setRow_heap _ _ _ _ _ _ H3.out
  have HF := hid hF
  have qF := hid (below_rowK Q3.out (g := W.heap.size) (Nat.le_refl _) (kyC ⟨n, true, 3⟩))
  have hi : (Try.prog.info? 31).map (·.size) = some (kyC ⟨n, true, 3⟩).size := by rw [kyC_size]; exact infoKy
  have HI := hid hi
  have HS := hid (show (#[.int .u8 0, .int .u8 0, .int .u8 0, .int .u8 0, .int .u8 0, .int .u8 0, .int .u8 0, .int .u8 0, .int .u8 0, .int .u8 0, .int .u8 0, .int .u8 0, .int .u8 0, .int .u8 0, .int .u8 0, .int .u8 0, .int .u8 0, .int .u8 0, .int .u8 0, .int .u8 0, .bool false, .int .u64 0, .int .u64 0, .int .u64 0, .int .u64 0] : Array Value).size = (kyC ⟨n, true, 3⟩).size by rw [kyC_size]; rfl)
  have HO := hid (kyC_one ⟨n, true, 3⟩)
  clear hF hi
  go_wp2_with (first | (refine wpList_build_key rfl (.tmp 14) (.tmp 17) rfl _ _ _ (B2.out 3) rfl rfl ?_) | (refine wpList_store_row rfl _ (.tmp 4) (.tmp 18) rfl _ _ rfl rfl _ _ H3.out HI.out HS.out HO.out ?_))
  try simp only [Exit.inBlock, Exit.then]
  refine bodyPost_ret (results_cell_row rfl _ _ W.heap.size 31 _ (0, 0) _ rfl HF.out Try.underlying31 rfl HI.out) rfl ?_
  exact ⟨by rw [hkn.out]; rfl, qF.out⟩
end
end Go.Proofs.Ytahjgllnfbejmaa
