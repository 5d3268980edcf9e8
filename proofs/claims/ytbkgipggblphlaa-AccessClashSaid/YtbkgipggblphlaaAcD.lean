/- Same of sets; awake. Conditions: none. -/
import Derived.Test.YtbkgipggblphlaaAcC
namespace Go.Proofs.Ytbkgipggblphlaa
open Go Go.RowKit
attribute [local go_sem] Oper.semAt_some Grows wide_fn

set_option maxRecDepth 100000 in
set_option maxHeartbeats 4000000 in
theorem ksets_any (W : World) (v1 v2 : Value) (r s r2 s2 : List Ky) (hs1 : SetsAt W v1 r s) (hs2 : SetsAt W v2 r2 s2) :
    Calls Try.prog 14 #[v1, v2] W fun e w' => e = .returned (.bool (decide (r = r2) && decide (s = s2))) ∧ Below W.heap.size W w' := by
  obtain ⟨a1, c1, a2, c2, rfl, k1, k2⟩ := hs1.shapes
  obtain ⟨a3, c3, a4, c4, rfl, k3, k4⟩ := hs2.shapes
  have HS := Lib.hid (fun (X : World) (hX : Below W.heap.size W X) => ksame_any X _ _ r r2 (k1.later hX) (k3.later hX))
  have HT := Lib.hid (fun (X : World) (hX : Below W.heap.size W X) => ksame_any X _ _ s s2 (k2.later hX) (k4.later hX))
  clear hs1 hs2 k1 k2 k3 k4
  generalize decide (r = r2) = p at *
  generalize decide (s = s2) = q at *
  generalize r.length = n1 at *
  generalize s.length = n2 at *
  generalize r2.length = n3 at *
  generalize s2.length = n4 at *
  have h0 := (Has.new W 24 #[.slice a1 n1 c1, .slice a2 n2 c2]).alloc (.cells #[.slice a3 n3 c3, .slice a4 n4 c4] 24)
  have h1 := Has.new (W.alloc (.cells #[.slice a1 n1 c1, .slice a2 n2 c2] 24)) 24 #[.slice a3 n3 c3, .slice a4 n4 c4]
  simp only [World.size_alloc] at h1
  have q0 := ((Below.refl W.heap.size W).alloc (Nat.le_refl _) (.cells #[.slice a1 n1 c1, .slice a2 n2 c2] 24)).alloc (by simp) (.cells #[.slice a3 n3 c3, .slice a4 n4 c4] 24)
  obtain ⟨V, hV⟩ : ∃ V, (W.alloc (.cells #[.slice a1 n1 c1, .slice a2 n2 c2] 24)).alloc (.cells #[.slice a3 n3 c3, .slice a4 n4 c4] 24) = V := ⟨_, rfl⟩
  rw [hV] at h0 h1 q0
  have H0 := Lib.hid h0
  have H1 := Lib.hid h1
  have Q := Lib.hid q0
  have b0 := h0.cell 0 _ rfl
  have d0 := h1.cell 0 _ rfl
  have HS0 := Lib.hid (HS.out V q0)
  clear h0 h1 q0
  cases p
  · go_enter Try.func14, Try.ntmps14
    go_wp2_with fail
    refine HS0.out.mono ?_
    rintro _ w1 ⟨rfl, hb1⟩
    have HE := Lib.hid (Q.out.trans (hb1.mono Q.out.size))
    go_wp2_with fail
    go_ret
    exact ⟨rfl, HE.out⟩
  · go_enter Try.func14, Try.ntmps14
    go_wp2_with fail
    refine HS0.out.mono ?_
    rintro _ w1 ⟨rfl, hb1⟩
    have HE := Lib.hid (Q.out.trans (hb1.mono Q.out.size))
    have b1 := (H0.out.later hb1).cell 1 _ rfl
    have d1 := (H1.out.later hb1).cell 1 _ rfl
    go_wp2_with fail
    refine (HT.out w1 HE.out).mono ?_
    rintro _ w2 ⟨rfl, hb2⟩
    have HF := Lib.hid (HE.out.trans (hb2.mono HE.out.size))
    go_wp2_with fail
    go_ret
    exact ⟨rfl, HF.out⟩
theorem of1_any (W : World) : Calls Try.prog 8 #[.int .i64 1] W fun e w' => e = .returned (.agg #[.int .u64 1, .int .u64 0, .int .u64 0, .int .u64 0]) ∧ Below W.heap.size W w' := by
  have h := refOf_ret 1 (by unfold I64; omega) W
  have e : wv (ofN 1) = .agg #[.int .u64 1, .int .u64 0, .int .u64 0, .int .u64 0] := by kernel_rfl
  rw [e] at h
  exact h
set_option maxRecDepth 100000 in
set_option maxHeartbeats 16000000 in
theorem awake_any (w : World) : Calls Try.prog 5 #[] w fun e w' => e = .returned (.bool true) ∧ Below w.heap.size w w' := by
  have h0 := Has.new w 31 #[.int .u8 0, .int .u8 0, .int .u8 0, .int .u8 0, .int .u8 0, .int .u8 0, .int .u8 0, .int .u8 0, .int .u8 0, .int .u8 0, .int .u8 0, .int .u8 0, .int .u8 0, .int .u8 0, .int .u8 0, .int .u8 0, .int .u8 0, .int .u8 0, .int .u8 0, .int .u8 0, .bool false, .int .u64 0, .int .u64 0, .int .u64 0, .int .u64 0]
  have q0 := (Below.refl w.heap.size w).alloc (Nat.le_refl _) (.cells #[.int .u8 0, .int .u8 0, .int .u8 0, .int .u8 0, .int .u8 0, .int .u8 0, .int .u8 0, .int .u8 0, .int .u8 0, .int .u8 0, .int .u8 0, .int .u8 0, .int .u8 0, .int .u8 0, .int .u8 0, .int .u8 0, .int .u8 0, .int .u8 0, .int .u8 0, .int .u8 0, .bool false, .int .u64 0, .int .u64 0, .int .u64 0, .int .u64 0] 31)
  obtain ⟨A0, hA0⟩ : ∃ A0, w.alloc (.cells #[.int .u8 0, .int .u8 0, .int .u8 0, .int .u8 0, .int .u8 0, .int .u8 0, .int .u8 0, .int .u8 0, .int .u8 0, .int .u8 0, .int .u8 0, .int .u8 0, .int .u8 0, .int .u8 0, .int .u8 0, .int .u8 0, .int .u8 0, .int .u8 0, .int .u8 0, .int .u8 0, .bool false, .int .u64 0, .int .u64 0, .int .u64 0, .int .u64 0] 31) = A0 := ⟨_, rfl⟩
  rw [hA0] at h0 q0
  have h1 : Has (A0.setRow w.heap.size #[.int .u8 1, .int .u8 0, .int .u8 0, .int .u8 0, .int .u8 0, .int .u8 0, .int .u8 0, .int .u8 0, .int .u8 0, .int .u8 0, .int .u8 0, .int .u8 0, .int .u8 0, .int .u8 0, .int .u8 0, .int .u8 0, .int .u8 0, .int .u8 0, .int .u8 0, .int .u8 0, .bool true, .int .u64 0, .int .u64 0, .int .u64 0, .int .u64 0]) w.heap.size 31 (kyC kk) := by rw [kk_cells]; exact setRow_heap _ _ _ _ _ _ h0
  have q1 := below_rowK q0 (g := w.heap.size) (Nat.le_refl _) #[.int .u8 1, .int .u8 0, .int .u8 0, .int .u8 0, .int .u8 0, .int .u8 0, .int .u8 0, .int .u8 0, .int .u8 0, .int .u8 0, .int .u8 0, .int .u8 0, .int .u8 0, .int .u8 0, .int .u8 0, .int .u8 0, .int .u8 0, .int .u8 0, .int .u8 0, .int .u8 0, .bool true, .int .u64 0, .int .u64 0, .int .u64 0, .int .u64 0]
  obtain ⟨A1, hA1⟩ : ∃ A1, A0.setRow w.heap.size #[.int .u8 1, .int .u8 0, .int .u8 0, .int .u8 0, .int .u8 0, .int .u8 0, .int .u8 0, .int .u8 0, .int .u8 0, .int .u8 0, .int .u8 0, .int .u8 0, .int .u8 0, .int .u8 0, .int .u8 0, .int .u8 0, .int .u8 0, .int .u8 0, .int .u8 0, .int .u8 0, .bool true, .int .u64 0, .int .u64 0, .int .u64 0, .int .u64 0] = A1 := ⟨_, rfl⟩
  rw [hA1] at h1 q1
  have h2 := Has.new A1 31 #[.int .u8 0, .int .u8 0, .int .u8 0, .int .u8 0, .int .u8 0, .int .u8 0, .int .u8 0, .int .u8 0, .int .u8 0, .int .u8 0, .int .u8 0, .int .u8 0, .int .u8 0, .int .u8 0, .int .u8 0, .int .u8 0, .int .u8 0, .int .u8 0, .int .u8 0, .int .u8 0, .bool false, .int .u64 0, .int .u64 0, .int .u64 0, .int .u64 0]
  have q2 := (Below.refl A1.heap.size A1).alloc (Nat.le_refl _) (.cells #[.int .u8 0, .int .u8 0, .int .u8 0, .int .u8 0, .int .u8 0, .int .u8 0, .int .u8 0, .int .u8 0, .int .u8 0, .int .u8 0, .int .u8 0, .int .u8 0, .int .u8 0, .int .u8 0, .int .u8 0, .int .u8 0, .int .u8 0, .int .u8 0, .int .u8 0, .int .u8 0, .bool false, .int .u64 0, .int .u64 0, .int .u64 0, .int .u64 0] 31)
  obtain ⟨A2, hA2⟩ : ∃ A2, A1.alloc (.cells #[.int .u8 0, .int .u8 0, .int .u8 0, .int .u8 0, .int .u8 0, .int .u8 0, .int .u8 0, .int .u8 0, .int .u8 0, .int .u8 0, .int .u8 0, .int .u8 0, .int .u8 0, .int .u8 0, .int .u8 0, .int .u8 0, .int .u8 0, .int .u8 0, .int .u8 0, .int .u8 0, .bool false, .int .u64 0, .int .u64 0, .int .u64 0, .int .u64 0] 31) = A2 := ⟨_, rfl⟩
  rw [hA2] at h2 q2
  have h3 : Has (A2.setRow A1.heap.size #[.int .u8 1, .int .u8 0, .int .u8 0, .int .u8 0, .int .u8 0, .int .u8 0, .int .u8 0, .int .u8 0, .int .u8 0, .int .u8 0, .int .u8 0, .int .u8 0, .int .u8 0, .int .u8 0, .int .u8 0, .int .u8 0, .int .u8 0, .int .u8 0, .int .u8 0, .int .u8 0, .bool false, .int .u64 0, .int .u64 0, .int .u64 0, .int .u64 0]) A1.heap.size 31 (kyC kl) := by rw [kl_cells]; exact setRow_heap _ _ _ _ _ _ h2
  have q3 := below_rowK q2 (g := A1.heap.size) (Nat.le_refl _) #[.int .u8 1, .int .u8 0, .int .u8 0, .int .u8 0, .int .u8 0, .int .u8 0, .int .u8 0, .int .u8 0, .int .u8 0, .int .u8 0, .int .u8 0, .int .u8 0, .int .u8 0, .int .u8 0, .int .u8 0, .int .u8 0, .int .u8 0, .int .u8 0, .int .u8 0, .int .u8 0, .bool false, .int .u64 0, .int .u64 0, .int .u64 0, .int .u64 0]
  obtain ⟨A3, hA3⟩ : ∃ A3, A2.setRow A1.heap.size #[.int .u8 1, .int .u8 0, .int .u8 0, .int .u8 0, .int .u8 0, .int .u8 0, .int .u8 0, .int .u8 0, .int .u8 0, .int .u8 0, .int .u8 0, .int .u8 0, .int .u8 0, .int .u8 0, .int .u8 0, .int .u8 0, .int .u8 0, .int .u8 0, .int .u8 0, .int .u8 0, .bool false, .int .u64 0, .int .u64 0, .int .u64 0, .int .u64 0] = A3 := ⟨_, rfl⟩
  rw [hA3] at h3 q3
  have HK1 := Lib.hid (h1.later q3)
  have HK2 := Lib.hid h3
  have Qw3 := Lib.hid (q1.trans (q3.mono q1.size))
  have L1 := Lib.hid HK1.out.kyLoad
  have L2 := Lib.hid h3.kyLoad
  have hiK : (Try.prog.info? 31).map (·.size) = some (#[.int .u8 1, .int .u8 0, .int .u8 0, .int .u8 0, .int .u8 0, .int .u8 0, .int .u8 0, .int .u8 0, .int .u8 0, .int .u8 0, .int .u8 0, .int .u8 0, .int .u8 0, .int .u8 0, .int .u8 0, .int .u8 0, .int .u8 0, .int .u8 0, .int .u8 0, .int .u8 0, .bool true, .int .u64 0, .int .u64 0, .int .u64 0, .int .u64 0] : Array Value).size := by kernel_rfl
  have hiL : (Try.prog.info? 31).map (·.size) = some (#[.int .u8 1, .int .u8 0, .int .u8 0, .int .u8 0, .int .u8 0, .int .u8 0, .int .u8 0, .int .u8 0, .int .u8 0, .int .u8 0, .int .u8 0, .int .u8 0, .int .u8 0, .int .u8 0, .int .u8 0, .int .u8 0, .int .u8 0, .int .u8 0, .int .u8 0, .int .u8 0, .bool false, .int .u64 0, .int .u64 0, .int .u64 0, .int .u64 0] : Array Value).size := by kernel_rfl
  have haK : (#[.int .u8 1, .int .u8 0, .int .u8 0, .int .u8 0, .int .u8 0, .int .u8 0, .int .u8 0, .int .u8 0, .int .u8 0, .int .u8 0, .int .u8 0, .int .u8 0, .int .u8 0, .int .u8 0, .int .u8 0, .int .u8 0, .int .u8 0, .int .u8 0, .int .u8 0, .int .u8 0, .bool true, .int .u64 0, .int .u64 0, .int .u64 0, .int .u64 0] : Array Value).all (·.oneCell') = true := by rw [← kk_cells]; exact kyC_one kk
  have haL : (#[.int .u8 1, .int .u8 0, .int .u8 0, .int .u8 0, .int .u8 0, .int .u8 0, .int .u8 0, .int .u8 0, .int .u8 0, .int .u8 0, .int .u8 0, .int .u8 0, .int .u8 0, .int .u8 0, .int .u8 0, .int .u8 0, .int .u8 0, .int .u8 0, .int .u8 0, .int .u8 0, .bool false, .int .u64 0, .int .u64 0, .int .u64 0, .int .u64 0] : Array Value).all (·.oneCell') = true := by rw [← kl_cells]; exact kyC_one kl
  obtain ⟨A4, hA4⟩ : ∃ A4, A3.alloc (.cells (flatKy [kk, kl, kk]).toArray 31) = A4 := ⟨_, rfl⟩
  have q4 := (Below.refl A3.heap.size A3).alloc (Nat.le_refl _) (.cells (flatKy [kk, kl, kk]).toArray 31)
  rw [hA4] at q4
  have MK := Lib.hid (show Calls Try.prog 12 #[.slice none 0 0, .slice (some ⟨A3.heap.size, 0, none⟩) 3 3] A4 (SetsP A4 [] [kl, kk] 0) from by
    have hm := keys_made A3 [kk, kl, kk] (by intro x hx; simp at hx; rcases hx with rfl | rfl | rfl; exact kk_ok; exact kl_ok; exact kk_ok) (by decide)
    rw [hA4] at hm
    have h := make_any A4 _ _ [] [kk, kl, kk] (KeysAt.nil _) hm (by decide) (by decide)
    rw [mkA_] at h
    exact h)
  have Q34 := Lib.hid q4
  clear q0 h1 q1 q2 h3 q3 q4
  go_enter Try.func5, Try.ntmps5
  simp only [List.append]
  go_wp2_with (first | (refine wpList_store_row rfl _ (.tmp 1) (.tmp 12) rfl _ _ rfl rfl _ _ h0 hiK rfl haK ?_; rw [hA1]) | (refine wpList_store_row rfl _ (.tmp 2) (.tmp 14) rfl _ _ rfl rfl _ _ h2 hiL rfl haL ?_; rw [hA3]) | (with_reducible refine wpList_load_known rfl _ (.tmp 1) rfl _ rfl _ L1.out ?_) | (with_reducible refine wpList_load_known rfl _ (.tmp 2) rfl _ rfl _ L2.out ?_) | (refine wpList_build_k3 rfl (.tmp 16) (.tmp 17) (.tmp 18) rfl kk kl kk rfl rfl rfl ?_; rw [hA4]))
  clear h0 hA0 hA1 h2 hA2 hA3 hiK hiL haK haL hA4 L1 L2
  refine MK.out.mono ?_
  rintro _ w1 ⟨x1, y1, rfl, kx1, ky1, hb1⟩
  obtain ⟨ax1, cx1, ex1, _⟩ := kx1.shape
  obtain ⟨ay1, cy1, ey1, _⟩ := ky1.shape
  replace ex1 : x1 = .slice ax1 0 cx1 := ex1
  replace ey1 : y1 = .slice ay1 2 cy1 := ey1
  subst ex1 ey1
  have Q3 := Lib.hid (Q34.out.trans (hb1.mono Q34.out.size))
  clear MK Q34 hb1
  have hB5 := Has.new w1 24 #[.slice ax1 0 cx1, .slice ay1 2 cy1]
  have hq5 := (Below.refl w1.heap.size w1).alloc (Nat.le_refl _) (.cells #[.slice ax1 0 cx1, .slice ay1 2 cy1] 24)
  obtain ⟨A5, hA5⟩ : ∃ A5, w1.alloc (.cells #[.slice ax1 0 cx1, .slice ay1 2 cy1] 24) = A5 := ⟨_, rfl⟩
  rw [hA5] at hB5 hq5
  have HS5 := Lib.hid hB5
  have KX5 := Lib.hid (kx1.later hq5)
  have KY5 := Lib.hid (ky1.later hq5)
  replace Q3 := Lib.hid (Q3.out.trans (hq5.mono Q3.out.size))
  have T5 := Lib.hid (Below.refl A5.heap.size A5)
  clear hB5 hq5 kx1 ky1
  have L1 := Lib.hid (HK1.out.later Q3.out).kyLoad
  have L2 := Lib.hid (HK2.out.later Q3.out).kyLoad
  obtain ⟨A6, hA6⟩ : ∃ A6, A5.alloc (.cells (flatKy [kk]).toArray 31) = A6 := ⟨_, rfl⟩
  have q6 := (Below.refl A5.heap.size A5).alloc (Nat.le_refl _) (.cells (flatKy [kk]).toArray 31)
  rw [hA6] at q6
  have MK := Lib.hid (show Calls Try.prog 12 #[.slice (some ⟨A5.heap.size, 0, none⟩) 1 1, .slice none 0 0] A6 (SetsP A6 [kk] [] 0) from by
    have hm := keys_made A5 [kk] (by intro x hx; simp at hx; subst hx; exact kk_ok) (by decide)
    rw [hA6] at hm
    have h := make_any A6 _ _ [kk] [] hm (KeysAt.nil _) (by decide) (by decide)
    rw [mkB_] at h
    exact h)
  have Q56 := Lib.hid q6
  clear q6
  go_wp2_with (first | (with_reducible refine wpList_load_known rfl _ (.tmp 1) rfl _ rfl _ L1.out ?_) | (with_reducible refine wpList_load_known rfl _ (.tmp 2) rfl _ rfl _ L2.out ?_) | (refine wpList_build_k1 rfl (.tmp 24) rfl kk rfl ?_; rw [hA6]))
  clear hA5 hA6 L1 L2
  refine MK.out.mono ?_
  rintro _ w2 ⟨x2, y2, rfl, kx2, ky2, hb2⟩
  obtain ⟨ax2, cx2, ex2, _⟩ := kx2.shape
  obtain ⟨ay2, cy2, ey2, _⟩ := ky2.shape
  replace ex2 : x2 = .slice ax2 1 cx2 := ex2
  replace ey2 : y2 = .slice ay2 0 cy2 := ey2
  subst ex2 ey2
  have hb52 := Q56.out.trans (hb2.mono Q56.out.size)
  replace Q3 := Lib.hid (Q3.out.trans (hb52.mono Q3.out.size))
  replace T5 := Lib.hid (T5.out.trans (hb52.mono T5.out.size))
  clear MK Q56 hb2 hb52
  have hB7 := Has.new w2 24 #[.slice ax2 1 cx2, .slice ay2 0 cy2]
  have hq7 := (Below.refl w2.heap.size w2).alloc (Nat.le_refl _) (.cells #[.slice ax2 1 cx2, .slice ay2 0 cy2] 24)
  obtain ⟨A7, hA7⟩ : ∃ A7, w2.alloc (.cells #[.slice ax2 1 cx2, .slice ay2 0 cy2] 24) = A7 := ⟨_, rfl⟩
  rw [hA7] at hB7 hq7
  have HS7 := Lib.hid hB7
  have KX7 := Lib.hid (kx2.later hq7)
  have KY7 := Lib.hid (ky2.later hq7)
  replace Q3 := Lib.hid (Q3.out.trans (hq7.mono Q3.out.size))
  replace T5 := Lib.hid (T5.out.trans (hq7.mono T5.out.size))
  have T7 := Lib.hid (Below.refl A7.heap.size A7)
  clear hB7 hq7 kx2 ky2
  have O1 := Lib.hid (of1_any A7)
  go_wp2_with fail
  clear hA7
  refine O1.out.mono ?_
  rintro _ w3 ⟨rfl, hb3⟩
  replace Q3 := Lib.hid (Q3.out.trans (hb3.mono Q3.out.size))
  replace T5 := Lib.hid (T5.out.trans (hb3.mono T5.out.size))
  replace T7 := Lib.hid (T7.out.trans (hb3.mono T7.out.size))
  clear O1 hb3
  obtain ⟨A8, hA8⟩ : ∃ A8, w3.alloc (.cells (flatKy [k1]).toArray 31) = A8 := ⟨_, rfl⟩
  have q8 := (Below.refl w3.heap.size w3).alloc (Nat.le_refl _) (.cells (flatKy [k1]).toArray 31)
  rw [hA8] at q8
  have MK := Lib.hid (show Calls Try.prog 12 #[.slice none 0 0, .slice (some ⟨w3.heap.size, 0, none⟩) 1 1] A8 (SetsP A8 [] [] 1) from by
    have hm := keys_made w3 [k1] (by intro x hx; simp at hx; subst hx; exact k1_ok) (by decide)
    rw [hA8] at hm
    have h := make_any A8 _ _ [] [k1] (KeysAt.nil _) hm (by decide) (by decide)
    rw [mkC_] at h
    exact h)
  have Q38 := Lib.hid q8
  clear q8
  go_wp2_with (refine wpList_build_k1 rfl (.tmp 31) rfl k1 (by rw [k1_cells]; rfl) ?_; rw [hA8])
  clear hA8
  refine MK.out.mono ?_
  rintro _ w4 ⟨x4, y4, rfl, kx4, ky4, hb4⟩
  obtain ⟨ax4, cx4, ex4, _⟩ := kx4.shape
  obtain ⟨ay4, cy4, ey4, _⟩ := ky4.shape
  replace ex4 : x4 = .slice ax4 0 cx4 := ex4
  replace ey4 : y4 = .slice ay4 0 cy4 := ey4
  subst ex4 ey4
  have hb34 := Q38.out.trans (hb4.mono Q38.out.size)
  replace Q3 := Lib.hid (Q3.out.trans (hb34.mono Q3.out.size))
  replace T5 := Lib.hid (T5.out.trans (hb34.mono T5.out.size))
  replace T7 := Lib.hid (T7.out.trans (hb34.mono T7.out.size))
  clear MK Q38 hb4 hb34
  have hB9 := Has.new w4 24 #[.slice ax4 0 cx4, .slice ay4 0 cy4]
  have hq9 := (Below.refl w4.heap.size w4).alloc (Nat.le_refl _) (.cells #[.slice ax4 0 cx4, .slice ay4 0 cy4] 24)
  obtain ⟨A9, hA9⟩ : ∃ A9, w4.alloc (.cells #[.slice ax4 0 cx4, .slice ay4 0 cy4] 24) = A9 := ⟨_, rfl⟩
  rw [hA9] at hB9 hq9
  have HS9 := Lib.hid hB9
  have KX9 := Lib.hid (kx4.later hq9)
  have KY9 := Lib.hid (ky4.later hq9)
  replace Q3 := Lib.hid (Q3.out.trans (hq9.mono Q3.out.size))
  replace T5 := Lib.hid (T5.out.trans (hq9.mono T5.out.size))
  replace T7 := Lib.hid (T7.out.trans (hq9.mono T7.out.size))
  have T9 := Lib.hid (Below.refl A9.heap.size A9)
  clear hB9 hq9 kx4 ky4
  have u0 := (HS5.out.later T5.out).cell 0 _ rfl
  have u1 := (HS5.out.later T5.out).cell 1 _ rfl
  have v0 := (HS7.out.later T7.out).cell 0 _ rfl
  have v1 := (HS7.out.later T7.out).cell 1 _ rfl
  have JN := Lib.hid (show Calls Try.prog 19 #[.agg #[.slice ax1 0 cx1, .slice ay1 2 cy1], .agg #[.slice ax2 1 cx2, .slice ay2 0 cy2]] A9 (SetsP A9 [kk] [kl, kk] 0) from by
    have h := kjoin_any A9 _ _ [] [kl, kk] [kk] [] (⟨_, _, rfl, KX5.out.later T5.out, KY5.out.later T5.out⟩ : SetsAt _ (.agg #[.slice ax1 0 cx1, .slice ay1 2 cy1]) [] [kl, kk]) (⟨_, _, rfl, KX7.out.later T7.out, KY7.out.later T7.out⟩ : SetsAt _ (.agg #[.slice ax2 1 cx2, .slice ay2 0 cy2]) [kk] [])
    rw [mkJ_] at h
    exact h)
  go_wp2_with fail
  clear hA9 u0 u1 v0 v1
  refine JN.out.mono ?_
  rintro _ w5 ⟨x5, y5, rfl, kx5, ky5, hb5⟩
  obtain ⟨ax5, cx5, ex5, _⟩ := kx5.shape
  obtain ⟨ay5, cy5, ey5, _⟩ := ky5.shape
  replace ex5 : x5 = .slice ax5 1 cx5 := ex5
  replace ey5 : y5 = .slice ay5 2 cy5 := ey5
  subst ex5 ey5
  replace Q3 := Lib.hid (Q3.out.trans (hb5.mono Q3.out.size))
  replace T5 := Lib.hid (T5.out.trans (hb5.mono T5.out.size))
  replace T7 := Lib.hid (T7.out.trans (hb5.mono T7.out.size))
  clear JN hb5
  have hB11 := Has.new w5 24 #[.slice ax5 1 cx5, .slice ay5 2 cy5]
  have hq11 := (Below.refl w5.heap.size w5).alloc (Nat.le_refl _) (.cells #[.slice ax5 1 cx5, .slice ay5 2 cy5] 24)
  obtain ⟨A11, hA11⟩ : ∃ A11, w5.alloc (.cells #[.slice ax5 1 cx5, .slice ay5 2 cy5] 24) = A11 := ⟨_, rfl⟩
  rw [hA11] at hB11 hq11
  have HS11 := Lib.hid hB11
  have KX11 := Lib.hid (kx5.later hq11)
  have KY11 := Lib.hid (ky5.later hq11)
  replace Q3 := Lib.hid (Q3.out.trans (hq11.mono Q3.out.size))
  replace T5 := Lib.hid (T5.out.trans (hq11.mono T5.out.size))
  replace T7 := Lib.hid (T7.out.trans (hq11.mono T7.out.size))
  have T11 := Lib.hid (Below.refl A11.heap.size A11)
  clear hB11 hq11 kx5 ky5
  have L1 := Lib.hid (HK1.out.later Q3.out).kyLoad
  have L2 := Lib.hid (HK2.out.later Q3.out).kyLoad
  have u0 := (HS5.out.later T5.out).cell 0 _ rfl
  have u1 := (HS5.out.later T5.out).cell 1 _ rfl
  obtain ⟨A12, hA12⟩ : ∃ A12, A11.alloc (.cells (flatKy [kl, kk]).toArray 31) = A12 := ⟨_, rfl⟩
  have q12 := (Below.refl A11.heap.size A11).alloc (Nat.le_refl _) (.cells (flatKy [kl, kk]).toArray 31)
  rw [hA12] at q12
  have SM := Lib.hid (show Calls Try.prog 14 #[.agg #[.slice ax1 0 cx1, .slice ay1 2 cy1], .agg #[.slice none 0 0, .slice (some ⟨A11.heap.size, 0, none⟩) 2 2]] A12 (fun e w' => e = .returned (.bool true) ∧ Below A12.heap.size A12 w') from by
    have hm := keys_made A11 [kl, kk] (by intro x hx; simp at hx; rcases hx with rfl | rfl; exact kl_ok; exact kk_ok) (by decide)
    rw [hA12] at hm
    have h := ksets_any A12 _ _ [] [kl, kk] [] [kl, kk] ((⟨_, _, rfl, KX5.out.later T5.out, KY5.out.later T5.out⟩ : SetsAt _ (.agg #[.slice ax1 0 cx1, .slice ay1 2 cy1]) [] [kl, kk]).later q12) ⟨_, _, rfl, KeysAt.nil _, hm⟩
    rw [decide_eq_true rfl, decide_eq_true rfl] at h
    exact h)
  have Q1112 := Lib.hid q12
  clear q12
  go_wp2_with (first | (refine wpList_load_known rfl _ (.tmp 1) rfl _ rfl _ L1.out ?_) | (refine wpList_load_known rfl _ (.tmp 2) rfl _ rfl _ L2.out ?_) | (refine wpList_build_k2 rfl (.tmp 46) (.tmp 47) rfl kl kk rfl rfl ?_; rw [hA12]))
  clear hA11 hA12 L1 L2 u0 u1
  refine SM.out.mono ?_
  rintro _ w6 ⟨rfl, hb6⟩
  have hbb := Q1112.out.trans (hb6.mono Q1112.out.size)
  replace Q3 := Lib.hid (Q3.out.trans (hbb.mono Q3.out.size))
  replace T5 := Lib.hid (T5.out.trans (hbb.mono T5.out.size))
  replace T7 := Lib.hid (T7.out.trans (hbb.mono T7.out.size))
  replace T11 := Lib.hid (T11.out.trans (hbb.mono T11.out.size))
  clear SM Q1112 hb6 hbb
  have u0 := (HS5.out.later T5.out).cell 0 _ rfl
  have u1 := (HS5.out.later T5.out).cell 1 _ rfl
  have v0 := (HS7.out.later T7.out).cell 0 _ rfl
  have v1 := (HS7.out.later T7.out).cell 1 _ rfl
  have CC := Lib.hid (show Calls Try.prog 21 #[.agg #[.slice ax1 0 cx1, .slice ay1 2 cy1], .agg #[.slice ax2 1 cx2, .slice ay2 0 cy2]] w6 (fun e w' => e = .returned (.bool true) ∧ Below w6.heap.size w6 w') from by
      have h := kclash_any w6 _ _ _ _ _ _ (⟨_, _, rfl, KX5.out.later T5.out, KY5.out.later T5.out⟩ : SetsAt _ (.agg #[.slice ax1 0 cx1, .slice ay1 2 cy1]) [] [kl, kk]) (⟨_, _, rfl, KX7.out.later T7.out, KY7.out.later T7.out⟩ : SetsAt _ (.agg #[.slice ax2 1 cx2, .slice ay2 0 cy2]) [kk] []) (by decide) (by decide) (by decide) (by decide)
      exact h)
  go_wp2_with fail
  clear u0 u1 v0 v1
  refine CC.out.mono ?_
  rintro _ w7 ⟨rfl, hbx⟩
  replace Q3 := Lib.hid (Q3.out.trans (hbx.mono Q3.out.size))
  replace T5 := Lib.hid (T5.out.trans (hbx.mono T5.out.size))
  replace T7 := Lib.hid (T7.out.trans (hbx.mono T7.out.size))
  replace T11 := Lib.hid (T11.out.trans (hbx.mono T11.out.size))
  clear CC hbx
  have u0 := (HS5.out.later T5.out).cell 0 _ rfl
  have u1 := (HS5.out.later T5.out).cell 1 _ rfl
  have v0 := (HS7.out.later T7.out).cell 0 _ rfl
  have v1 := (HS7.out.later T7.out).cell 1 _ rfl
  have CC := Lib.hid (show Calls Try.prog 21 #[.agg #[.slice ax2 1 cx2, .slice ay2 0 cy2], .agg #[.slice ax1 0 cx1, .slice ay1 2 cy1]] w7 (fun e w' => e = .returned (.bool true) ∧ Below w7.heap.size w7 w') from by
      have h := kclash_any w7 _ _ _ _ _ _ (⟨_, _, rfl, KX7.out.later T7.out, KY7.out.later T7.out⟩ : SetsAt _ (.agg #[.slice ax2 1 cx2, .slice ay2 0 cy2]) [kk] []) (⟨_, _, rfl, KX5.out.later T5.out, KY5.out.later T5.out⟩ : SetsAt _ (.agg #[.slice ax1 0 cx1, .slice ay1 2 cy1]) [] [kl, kk]) (by decide) (by decide) (by decide) (by decide)
      exact h)
  go_wp2_with fail
  clear u0 u1 v0 v1
  refine CC.out.mono ?_
  rintro _ w8 ⟨rfl, hbx⟩
  replace Q3 := Lib.hid (Q3.out.trans (hbx.mono Q3.out.size))
  replace T5 := Lib.hid (T5.out.trans (hbx.mono T5.out.size))
  replace T7 := Lib.hid (T7.out.trans (hbx.mono T7.out.size))
  replace T11 := Lib.hid (T11.out.trans (hbx.mono T11.out.size))
  clear CC hbx
  have v0 := (HS7.out.later T7.out).cell 0 _ rfl
  have v1 := (HS7.out.later T7.out).cell 1 _ rfl
  have CC := Lib.hid (show Calls Try.prog 21 #[.agg #[.slice ax2 1 cx2, .slice ay2 0 cy2], .agg #[.slice ax2 1 cx2, .slice ay2 0 cy2]] w8 (fun e w' => e = .returned (.bool false) ∧ Below w8.heap.size w8 w') from by
      have h := kclash_any w8 _ _ _ _ _ _ (⟨_, _, rfl, KX7.out.later T7.out, KY7.out.later T7.out⟩ : SetsAt _ (.agg #[.slice ax2 1 cx2, .slice ay2 0 cy2]) [kk] []) (⟨_, _, rfl, KX7.out.later T7.out, KY7.out.later T7.out⟩ : SetsAt _ (.agg #[.slice ax2 1 cx2, .slice ay2 0 cy2]) [kk] []) (by decide) (by decide) (by decide) (by decide)
      exact h)
  go_wp2_with fail
  clear v0 v1
  refine CC.out.mono ?_
  rintro _ w9 ⟨rfl, hbx⟩
  replace Q3 := Lib.hid (Q3.out.trans (hbx.mono Q3.out.size))
  replace T5 := Lib.hid (T5.out.trans (hbx.mono T5.out.size))
  replace T7 := Lib.hid (T7.out.trans (hbx.mono T7.out.size))
  replace T11 := Lib.hid (T11.out.trans (hbx.mono T11.out.size))
  clear CC hbx
  have L1 := Lib.hid (HK1.out.later Q3.out).kyLoad
  have L2 := Lib.hid (HK2.out.later Q3.out).kyLoad
  have CC := Lib.hid (show Calls Try.prog 9 #[.agg (kyC kl), .agg (kyC kk)] w9 (fun e w' => e = .returned (.int .i64 (-1)) ∧ Below w9.heap.size w9 w') from by
      have h := korder_any w9 kl kk kl_ok kk_ok
      have e : kcmp kl kk = -1 := by kernel_rfl
      rw [e] at h
      exact h)
  go_wp2_with (first | (refine wpList_load_known rfl _ (.tmp 1) rfl _ rfl _ L1.out ?_) | (refine wpList_load_known rfl _ (.tmp 2) rfl _ rfl _ L2.out ?_))
  clear L1 L2
  refine CC.out.mono ?_
  rintro _ w10 ⟨rfl, hbx⟩
  replace Q3 := Lib.hid (Q3.out.trans (hbx.mono Q3.out.size))
  replace T5 := Lib.hid (T5.out.trans (hbx.mono T5.out.size))
  replace T7 := Lib.hid (T7.out.trans (hbx.mono T7.out.size))
  replace T11 := Lib.hid (T11.out.trans (hbx.mono T11.out.size))
  clear CC hbx
  have L1 := Lib.hid (HK1.out.later Q3.out).kyLoad
  have L2 := Lib.hid (HK2.out.later Q3.out).kyLoad
  have u0 := (HS5.out.later T5.out).cell 0 _ rfl
  have u1 := (HS5.out.later T5.out).cell 1 _ rfl
  have CC := Lib.hid (show Calls Try.prog 17 #[.agg #[.slice ax1 0 cx1, .slice ay1 2 cy1], .agg (kyC kk), .bool true] w10 (fun e w' => e = .returned (.bool true) ∧ Below w10.heap.size w10 w') from by
      have h := kmay_any w10 _ _ _ kk true kk_ok (⟨_, _, rfl, KX5.out.later T5.out, KY5.out.later T5.out⟩ : SetsAt _ (.agg #[.slice ax1 0 cx1, .slice ay1 2 cy1]) [] [kl, kk])
      exact h)
  go_wp2_with (first | (refine wpList_load_known rfl _ (.tmp 1) rfl _ rfl _ L1.out ?_) | (refine wpList_load_known rfl _ (.tmp 2) rfl _ rfl _ L2.out ?_))
  clear L1 L2 u0 u1
  refine CC.out.mono ?_
  rintro _ w11 ⟨rfl, hbx⟩
  replace Q3 := Lib.hid (Q3.out.trans (hbx.mono Q3.out.size))
  replace T5 := Lib.hid (T5.out.trans (hbx.mono T5.out.size))
  replace T7 := Lib.hid (T7.out.trans (hbx.mono T7.out.size))
  replace T11 := Lib.hid (T11.out.trans (hbx.mono T11.out.size))
  clear CC hbx
  have L1 := Lib.hid (HK1.out.later Q3.out).kyLoad
  have L2 := Lib.hid (HK2.out.later Q3.out).kyLoad
  have v0 := (HS7.out.later T7.out).cell 0 _ rfl
  have v1 := (HS7.out.later T7.out).cell 1 _ rfl
  have CC := Lib.hid (show Calls Try.prog 17 #[.agg #[.slice ax2 1 cx2, .slice ay2 0 cy2], .agg (kyC kk), .bool false] w11 (fun e w' => e = .returned (.bool true) ∧ Below w11.heap.size w11 w') from by
      have h := kmay_any w11 _ _ _ kk false kk_ok (⟨_, _, rfl, KX7.out.later T7.out, KY7.out.later T7.out⟩ : SetsAt _ (.agg #[.slice ax2 1 cx2, .slice ay2 0 cy2]) [kk] [])
      exact h)
  go_wp2_with (first | (refine wpList_load_known rfl _ (.tmp 1) rfl _ rfl _ L1.out ?_) | (refine wpList_load_known rfl _ (.tmp 2) rfl _ rfl _ L2.out ?_))
  clear L1 L2 v0 v1
  refine CC.out.mono ?_
  rintro _ w12 ⟨rfl, hbx⟩
  replace Q3 := Lib.hid (Q3.out.trans (hbx.mono Q3.out.size))
  replace T5 := Lib.hid (T5.out.trans (hbx.mono T5.out.size))
  replace T7 := Lib.hid (T7.out.trans (hbx.mono T7.out.size))
  replace T11 := Lib.hid (T11.out.trans (hbx.mono T11.out.size))
  clear CC hbx
  have L1 := Lib.hid (HK1.out.later Q3.out).kyLoad
  have L2 := Lib.hid (HK2.out.later Q3.out).kyLoad
  have v0 := (HS7.out.later T7.out).cell 0 _ rfl
  have v1 := (HS7.out.later T7.out).cell 1 _ rfl
  have CC := Lib.hid (show Calls Try.prog 17 #[.agg #[.slice ax2 1 cx2, .slice ay2 0 cy2], .agg (kyC kk), .bool true] w12 (fun e w' => e = .returned (.bool false) ∧ Below w12.heap.size w12 w') from by
      have h := kmay_any w12 _ _ _ kk true kk_ok (⟨_, _, rfl, KX7.out.later T7.out, KY7.out.later T7.out⟩ : SetsAt _ (.agg #[.slice ax2 1 cx2, .slice ay2 0 cy2]) [kk] [])
      exact h)
  go_wp2_with (first | (refine wpList_load_known rfl _ (.tmp 1) rfl _ rfl _ L1.out ?_) | (refine wpList_load_known rfl _ (.tmp 2) rfl _ rfl _ L2.out ?_))
  clear L1 L2 v0 v1
  refine CC.out.mono ?_
  rintro _ w13 ⟨rfl, hbx⟩
  replace Q3 := Lib.hid (Q3.out.trans (hbx.mono Q3.out.size))
  replace T5 := Lib.hid (T5.out.trans (hbx.mono T5.out.size))
  replace T7 := Lib.hid (T7.out.trans (hbx.mono T7.out.size))
  replace T11 := Lib.hid (T11.out.trans (hbx.mono T11.out.size))
  clear CC hbx
  have o0 := (HS11.out.later T11.out).cell 0 _ rfl
  have o1 := (HS11.out.later T11.out).cell 1 _ rfl
  have CC := Lib.hid (show Calls Try.prog 15 #[.agg #[.slice ax5 1 cx5, .slice ay5 2 cy5]] w13 (fun e w' => e = .returned (.bool true) ∧ Below w13.heap.size w13 w') from by
      have h := kright_any w13 _ _ _ (⟨_, _, rfl, KX11.out.later T11.out, KY11.out.later T11.out⟩ : SetsAt _ (.agg #[.slice ax5 1 cx5, .slice ay5 2 cy5]) [kk] [kl, kk])
      rw [fitK, fitA] at h
      exact h)
  go_wp2_with fail
  clear o0 o1
  refine CC.out.mono ?_
  rintro _ w14 ⟨rfl, hbx⟩
  replace Q3 := Lib.hid (Q3.out.trans (hbx.mono Q3.out.size))
  replace T5 := Lib.hid (T5.out.trans (hbx.mono T5.out.size))
  replace T7 := Lib.hid (T7.out.trans (hbx.mono T7.out.size))
  replace T11 := Lib.hid (T11.out.trans (hbx.mono T11.out.size))
  clear CC hbx
  have o0 := (HS11.out.later T11.out).cell 0 _ rfl
  have o1 := (HS11.out.later T11.out).cell 1 _ rfl
  have QF := Lib.hid (Qw3.out.trans (Q3.out.mono Qw3.out.size))
  go_wp2_with fail
  go_ret
  exact ⟨rfl, QF.out⟩
end Go.Proofs.Ytbkgipggblphlaa
