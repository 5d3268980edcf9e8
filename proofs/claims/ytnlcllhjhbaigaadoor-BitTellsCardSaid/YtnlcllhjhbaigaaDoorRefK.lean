/- The reference's long division. -/
import Derived.Test.YtnlcllhjhbaigaaDoorRefJ
import Derived.Test.YtnlcllhjhbaigaaDoorGhost
namespace Go.Proofs.YtnlcllhjhbaigaaDoor
open Go Go.RowKit
attribute [local go_sem] Oper.semAt_some Grows

theorem run_mkB (W : World) : (Instr.makeSlice 44 (.int .i64 256) (.int .i64 256)).run Tryd.prog W = .ok (.slice (some ⟨W.heap.size, 0, none⟩) 256 256) (W.alloc (.cells (madeCells #[.int .i64 0] 256) 3)) := by
  obtain ⟨i0, hi, hz0, hz1, hz2⟩ := info_parts infoI
  have h := run_make (P := Tryd.prog) W 44 3 i0 (.int .i64 0) Tryd.underlying44 hi hz0 .i64 .i64 256 256 (by decide) (by decide) (by rw [hz2]; decide) (by decide)
  rw [hz1] at h
  exact h
/-- The bits of a quotient from a place on. -/
def dq (N k j : Nat) : Int := if j < k then 0 else (bt N j : Int)
theorem dq_zero (N j : Nat) : dq N 0 j = (bt N j : Int) := if_neg (Nat.not_lt_zero j)
theorem dq_top (N j : Nat) (h : j < 256) : dq N 256 j = 0 := if_pos h
/-- What is left when the bits from a place on are divided. -/
def rdN (a b k : Nat) : Nat := a / 2 ^ k % b
theorem rdN_zero (a b : Nat) : rdN a b 0 = a % b := by unfold rdN; rw [Nat.pow_zero, Nat.div_one]
theorem rdN_top (a b : Nat) (ha : W256 a) : rdN a b 256 = 0 := by
  unfold rdN
  rw [Nat.div_eq_of_lt (show a < 2 ^ 256 from ha), Nat.zero_mod]
theorem rd_take (a b m : Nat) (hb : b ≠ 0) (h : b ≤ 2 * rdN a b (m + 1) + bt a m) : 2 * rdN a b (m + 1) + bt a m - b = rdN a b m ∧ (fun j => if j = m then (1 : Int) else dq (a / b) (m + 1) j) = dq (a / b) m := by
  obtain ⟨h1, h2⟩ := dv_step a b m hb
  unfold rdN at h
  rw [if_pos h] at h1 h2
  refine ⟨h1.symm, funext fun j => ?_⟩
  unfold dq
  by_cases e : j = m
  · subst e; rw [if_pos rfl, if_neg (Nat.lt_irrefl _), h2]; rfl
  · rw [if_neg e]
    by_cases e2 : j < m
    · rw [if_pos (by omega), if_pos e2]
    · rw [if_neg (by omega), if_neg e2]
theorem rd_keep (a b m : Nat) (hb : b ≠ 0) (h : ¬ b ≤ 2 * rdN a b (m + 1) + bt a m) : 2 * rdN a b (m + 1) + bt a m = rdN a b m ∧ dq (a / b) (m + 1) = dq (a / b) m := by
  obtain ⟨h1, h2⟩ := dv_step a b m hb
  unfold rdN at h
  rw [if_neg h] at h1 h2
  refine ⟨h1.symm, funext fun j => ?_⟩
  unfold dq
  by_cases e : j = m
  · subst e; rw [if_pos (by omega), if_neg (Nat.lt_irrefl _), h2]; rfl
  · by_cases e2 : j < m
    · rw [if_pos (by omega), if_pos e2]
    · rw [if_neg (by omega), if_neg e2]
theorem results_two {fn : Func} {t u : Tmp} {tmps : Array Value} {W : World} {B B' : Nat} {m m' : Nat → Int} (h : fn.results = #[ResultVar.cell t 24, ResultVar.cell u 24]) (ht : tmps.getD t undef = .pointer (some ⟨B, 0, none⟩)) (hu : tmps.getD u undef = .pointer (some ⟨B', 0, none⟩)) (hA : Has W B 24 #[.int .u64 (m 0), .int .u64 (m 1), .int .u64 (m 2), .int .u64 (m 3)]) (hA' : Has W B' 24 #[.int .u64 (m' 0), .int .u64 (m' 1), .int .u64 (m' 2), .int .u64 (m' 3)]) :
    (results fn tmps).run Tryd.prog W = .ok (.tuple #[.agg #[.int .u64 (m 0), .int .u64 (m 1), .int .u64 (m 2), .int .u64 (m 3)], .agg #[.int .u64 (m' 0), .int .u64 (m' 1), .int .u64 (m' 2), .int .u64 (m' 3)]]) W := by
  have e0 := hA.cell 0 _ rfl
  have e1 := hA.cell 1 _ rfl
  have e2 := hA.cell 2 _ rfl
  have e3 := hA.cell 3 _ rfl
  have f0 := hA'.cell 0 _ rfl
  have f1 := hA'.cell 1 _ rfl
  have f2 := hA'.cell 2 _ rfl
  have f3 := hA'.cell 3 _ rfl
  simp at ht hu
  simp [results, h, ht, hu, go_sem, e0, e1, e2, e3, f0, f1, f2, f3]

set_option maxRecDepth 100000 in
set_option maxHeartbeats 4000000 in
theorem refDivided_ret (a b : Nat) (ha : W256 a) (hb : W256 b) (h0 : b ≠ 0) :
    Ret Tryd.prog 53 #[wv a, wv b] (.tuple #[wv (a / b), wv (a % b)]) := by
  intro w
  have HB := Lib.hid (bits_any a)
  have HF := Lib.hid (fromBits_any (a / b) (by unfold W256 at *; exact Nat.lt_of_le_of_lt (Nat.div_le_self a b) ha))
  have HD := Lib.hid (fun r t hr ht hl => refDouble_ret r b t hr hb ht hl)
  have HT0 := rdN_top a b ha
  have HE0 := Lib.hid (rdN_zero a b)
  have HL := Lib.hid (fun k : Nat => show rdN a b k < b from Nat.mod_lt _ (Nat.pos_of_ne_zero h0))
  have H0 := Lib.hid h0
  have HWb := Lib.hid hb
  clear ha hb h0
  unfold wv at HB HF HD ⊢
  go_enter Tryd.func53, Tryd.ntmps53
  have LX := Has.new w 24 #[.int .u64 (lim a 0), .int .u64 (lim a 1), .int .u64 (lim a 2), .int .u64 (lim a 3)]
  have k1 := LX.cell 0 _ rfl
  have k2 := LX.cell 1 _ rfl
  have k3 := LX.cell 2 _ rfl
  have k4 := LX.cell 3 _ rfl
  have LX := LX.alloc (.cells #[.int .u64 (lim b 0), .int .u64 (lim b 1), .int .u64 (lim b 2), .int .u64 (lim b 3)] 24)
  have LN := Has.new (w.alloc (.cells #[.int .u64 (lim a 0), .int .u64 (lim a 1), .int .u64 (lim a 2), .int .u64 (lim a 3)] 24)) 24 #[.int .u64 (lim b 0), .int .u64 (lim b 1), .int .u64 (lim b 2), .int .u64 (lim b 3)]
  simp only [World.size_alloc] at LN
  have k5 := LX.cell 0 _ rfl
  have k6 := LX.cell 1 _ rfl
  have k7 := LX.cell 2 _ rfl
  have k8 := LX.cell 3 _ rfl
  have k9 := LN.cell 0 _ rfl
  have k10 := LN.cell 1 _ rfl
  have k11 := LN.cell 2 _ rfl
  have k12 := LN.cell 3 _ rfl
  have LX := LX.alloc (.cells #[.int .u64 0, .int .u64 0, .int .u64 0, .int .u64 0] 24)
  have LN := LN.alloc (.cells #[.int .u64 0, .int .u64 0, .int .u64 0, .int .u64 0] 24)
  have LR := Has.new ((w.alloc (.cells #[.int .u64 (lim a 0), .int .u64 (lim a 1), .int .u64 (lim a 2), .int .u64 (lim a 3)] 24)).alloc (.cells #[.int .u64 (lim b 0), .int .u64 (lim b 1), .int .u64 (lim b 2), .int .u64 (lim b 3)] 24)) 24 #[.int .u64 0, .int .u64 0, .int .u64 0, .int .u64 0]
  simp only [World.size_alloc] at LR
  have k13 := LX.cell 0 _ rfl
  have k14 := LX.cell 1 _ rfl
  have k15 := LX.cell 2 _ rfl
  have k16 := LX.cell 3 _ rfl
  have k17 := LN.cell 0 _ rfl
  have k18 := LN.cell 1 _ rfl
  have k19 := LN.cell 2 _ rfl
  have k20 := LN.cell 3 _ rfl
  have k21 := LR.cell 0 _ rfl
  have k22 := LR.cell 1 _ rfl
  have k23 := LR.cell 2 _ rfl
  have k24 := LR.cell 3 _ rfl
  have LX := LX.alloc (.cells #[.int .u64 0, .int .u64 0, .int .u64 0, .int .u64 0] 24)
  have LN := LN.alloc (.cells #[.int .u64 0, .int .u64 0, .int .u64 0, .int .u64 0] 24)
  have LR := LR.alloc (.cells #[.int .u64 0, .int .u64 0, .int .u64 0, .int .u64 0] 24)
  have LT := Has.new (((w.alloc (.cells #[.int .u64 (lim a 0), .int .u64 (lim a 1), .int .u64 (lim a 2), .int .u64 (lim a 3)] 24)).alloc (.cells #[.int .u64 (lim b 0), .int .u64 (lim b 1), .int .u64 (lim b 2), .int .u64 (lim b 3)] 24)).alloc (.cells #[.int .u64 0, .int .u64 0, .int .u64 0, .int .u64 0] 24)) 24 #[.int .u64 0, .int .u64 0, .int .u64 0, .int .u64 0]
  simp only [World.size_alloc] at LT
  have k25 := LX.cell 0 _ rfl
  have k26 := LX.cell 1 _ rfl
  have k27 := LX.cell 2 _ rfl
  have k28 := LX.cell 3 _ rfl
  have k29 := LN.cell 0 _ rfl
  have k30 := LN.cell 1 _ rfl
  have k31 := LN.cell 2 _ rfl
  have k32 := LN.cell 3 _ rfl
  have k33 := LR.cell 0 _ rfl
  have k34 := LR.cell 1 _ rfl
  have k35 := LR.cell 2 _ rfl
  have k36 := LR.cell 3 _ rfl
  have k37 := LT.cell 0 _ rfl
  have k38 := LT.cell 1 _ rfl
  have k39 := LT.cell 2 _ rfl
  have k40 := LT.cell 3 _ rfl
  have Q := (Below.refl w.heap.size w)
  have Q := Q.alloc Q.size (.cells #[.int .u64 (lim a 0), .int .u64 (lim a 1), .int .u64 (lim a 2), .int .u64 (lim a 3)] 24)
  have Q := Q.alloc Q.size (.cells #[.int .u64 (lim b 0), .int .u64 (lim b 1), .int .u64 (lim b 2), .int .u64 (lim b 3)] 24)
  have Q := Q.alloc Q.size (.cells #[.int .u64 0, .int .u64 0, .int .u64 0, .int .u64 0] 24)
  have Q := Q.alloc Q.size (.cells #[.int .u64 0, .int .u64 0, .int .u64 0, .int .u64 0] 24)
  go_wp2_with fail
  clear k1 k2 k3 k4 k5 k6 k7 k8 k9 k10 k11 k12 k13 k14 k15 k16 k17 k18 k19 k20 k21 k22 k23 k24 k25 k26 k27 k28 k29 k30 k31 k32 k33 k34 k35 k36 k37 k38 k39 k40
  obtain ⟨W1, hW1⟩ : ∃ W1, ((((w.alloc (.cells #[.int .u64 (lim a 0), .int .u64 (lim a 1), .int .u64 (lim a 2), .int .u64 (lim a 3)] 24)).alloc (.cells #[.int .u64 (lim b 0), .int .u64 (lim b 1), .int .u64 (lim b 2), .int .u64 (lim b 3)] 24)).alloc (.cells #[.int .u64 0, .int .u64 0, .int .u64 0, .int .u64 0] 24)).alloc (.cells #[.int .u64 0, .int .u64 0, .int .u64 0, .int .u64 0] 24)) = W1 := ⟨_, rfl⟩
  rw [hW1] at LX LN LR LT Q ⊢
  clear hW1
  refine (HB.out _).mono ?_
  rintro e v41 ⟨g, cap, rfl, hg, hI, q⟩
  have LX := LX.later q
  have LN := LN.later q
  have LR := LR.later q
  have LT := LT.later q
  have Q := Q.trans (q.mono Q.size)
  clear q
  clear hg HB LX
  have aN := LN.lt
  have aR := LR.lt
  have aT := LT.lt
  have aI := hI.lt
  have LN := (LN.alloc (.cells #[.int .u64 0, .int .u64 0, .int .u64 0, .int .u64 0] 24)).alloc (.cells (madeCells #[.int .i64 0] 256) 3)
  have LR := (LR.alloc (.cells #[.int .u64 0, .int .u64 0, .int .u64 0, .int .u64 0] 24)).alloc (.cells (madeCells #[.int .i64 0] 256) 3)
  have LT := (LT.alloc (.cells #[.int .u64 0, .int .u64 0, .int .u64 0, .int .u64 0] 24)).alloc (.cells (madeCells #[.int .i64 0] 256) 3)
  have LS := (Has.new v41 24 #[.int .u64 0, .int .u64 0, .int .u64 0, .int .u64 0]).alloc (.cells (madeCells #[.int .i64 0] 256) 3)
  have hI := (hI.alloc (.cells #[.int .u64 0, .int .u64 0, .int .u64 0, .int .u64 0] 24)).alloc (.cells (madeCells #[.int .i64 0] 256) 3)
  have IQ := zero_ints (v41.alloc (.cells #[.int .u64 0, .int .u64 0, .int .u64 0, .int .u64 0] 24)) 256
  simp only [World.size_alloc] at IQ
  have Q := (Q.alloc Q.size (.cells #[.int .u64 0, .int .u64 0, .int .u64 0, .int .u64 0] 24)).alloc (by have := Q.size; simp; omega) (.cells (madeCells #[.int .i64 0] 256) 3)
  have hmk := run_mkB
  go_wp2
  obtain ⟨W3, hW3⟩ : ∃ W3, (v41.alloc (.cells #[.int .u64 0, .int .u64 0, .int .u64 0, .int .u64 0] 24)).alloc (.cells (madeCells #[.int .i64 0] 256) 3) = W3 := ⟨_, rfl⟩
  rw [hW3] at LN LR LT LS hI IQ Q ⊢
  clear hW3 hmk
  generalize v41.heap.size = c at *
  go_loopw [9] (fun i wr => ∃ (k : Nat) (z : Int), k ≤ 256 ∧ z = (k : Int) - 1 ∧ i = .int .i64 z ∧ IntsAt wr g 256 (fun j => (bt a j : Int)) ∧ IntsAt wr (c + 1) 256 (dq (a / b) k) ∧ Has wr (w.heap.size + 1) 24 #[.int .u64 (lim b 0), .int .u64 (lim b 1), .int .u64 (lim b 2), .int .u64 (lim b 3)] ∧ Has wr (w.heap.size + 1 + 1) 24 #[.int .u64 0, .int .u64 0, .int .u64 0, .int .u64 0] ∧ Has wr (w.heap.size + 1 + 1 + 1) 24 #[.int .u64 0, .int .u64 0, .int .u64 0, .int .u64 0] ∧ Has wr (c) 24 #[.int .u64 (lim (rdN a b k) 0), .int .u64 (lim (rdN a b k) 1), .int .u64 (lim (rdN a b k) 2), .int .u64 (lim (rdN a b k) 3)] ∧ Below w.heap.size w wr) (fun i _ => (intOf i + 1).toNat)
  case atStart => exact ⟨256, 255, by omega, by omega, rfl, hI, IQ.congr (fun j hj => (dq_top (a / b) j hj).symm), LN, LR, LT, by rw [HT0]; exact LS, Q⟩
  case round =>
    obtain ⟨k, z, hk, hz, rfl, hI, IQ, LN, LR, LT, LS, Q⟩ := hrel
    clear HT0
    by_cases hk0 : k = 0
    · obtain rfl : z = -1 := by omega
      subst hk0
      have IB := IQ.congr (fun j _ => dq_zero (a / b) j)
      rw [HE0.out] at LS
      have nQR : c + 1 ≠ w.heap.size + 1 + 1 := by omega
      have nQT : c + 1 ≠ w.heap.size + 1 + 1 + 1 := by omega
      have nSR : c ≠ w.heap.size + 1 + 1 := by omega
      have nST : c ≠ w.heap.size + 1 + 1 + 1 := by omega
      clear hk hz hI IQ LN aN aI HE0 HL HD H0 HWb
      go_wp2
      refine wp_region_ghost [some (.slice (some ⟨c + 1, 0, none⟩) 256 256), some (.agg #[.int .u64 (lim (a / b) 0), .int .u64 (lim (a / b) 1), .int .u64 (lim (a / b) 2), .int .u64 (lim (a / b) 3)]), some (.agg #[.int .u64 (lim (a % b) 0), .int .u64 (lim (a % b) 1), .int .u64 (lim (a % b) 2), .int .u64 (lim (a % b) 3)]), none, none] [[], [0], [], [0, 1], [0, 1, 2, 3]] (fun f g' w' => Below w.heap.size w w' ∧ IntsAt w' (c + 1) 256 (fun j => (bt (a / b) j : Int)) ∧ Has w' (c) 24 #[.int .u64 (lim (a % b) 0), .int .u64 (lim (a % b) 1), .int .u64 (lim (a % b) 2), .int .u64 (lim (a % b) 3)] ∧ Has w' (w.heap.size + 1 + 1) 24 (cellsIf (f 3) #[.int .u64 (lim (a / b) 0), .int .u64 (lim (a / b) 1), .int .u64 (lim (a / b) 2), .int .u64 (lim (a / b) 3)] #[.int .u64 0, .int .u64 0, .int .u64 0, .int .u64 0]) ∧ Has w' (w.heap.size + 1 + 1 + 1) 24 (cellsIf (f 4) #[.int .u64 (lim (a % b) 0), .int .u64 (lim (a % b) 1), .int .u64 (lim (a % b) 2), .int .u64 (lim (a % b) 3)] #[.int .u64 0, .int .u64 0, .int .u64 0, .int .u64 0]))
        (by kernel_rfl) (by kernel_rfl) (by kernel_rfl) ?_ ?_ ?_ ?_
      · rintro f g' wa wb ⟨h1, h2, h3, h4, h5⟩ hb
        exact ⟨h1.trans (hb.mono h1.size), h2.later hb, h3.later hb, h4.later hb, h5.later hb⟩
      · intro f f' g1 g1' wa h
        have ha := h 3 rfl
        have hs := h 4 rfl
        simp only [ha.1, hs.1]
        exact id
      · exact ⟨Q.drew, IB, LS, LR, LT⟩
      rintro f g' y ⟨h1, h2, h3, h4, h5⟩ Dn
      clear Q IB LS LR LT
      refine GW.known _ rfl (fun hd hf => ?_) ?_
      · go_wp2
        exact ⟨rfl, rfl, Below.refl _ _⟩
      simp only [Act.put, List.setIfInBounds_toArray, List.set_cons_succ, List.set_cons_zero]
      refine GW.known _ rfl (fun hd hf => ?_) ?_
      · go_wp2_with fail
        refine (HF.out _ _ _ h2).mono ?_
        rintro e u ⟨rfl, hb⟩
        go_wp2
        exact ⟨rfl, rfl, hb⟩
      simp only [Act.put, List.setIfInBounds_toArray, List.set_cons_succ, List.set_cons_zero]
      refine GW.known _ rfl (fun hd hf => ?_) ?_
      · have s0 := h3.cell 0 _ rfl
        have s1 := h3.cell 1 _ rfl
        have s2 := h3.cell 2 _ rfl
        have s3 := h3.cell 3 _ rfl
        go_wp2
        exact ⟨rfl, rfl, Below.refl _ _⟩
      simp only [Act.put, List.setIfInBounds_toArray, List.set_cons_succ, List.set_cons_zero]
      refine GW.open rfl (fun hd hf => ?_) ?_
      · rw [hf, cellsIf_false] at h4
        have c0 := h4.cell 0 _ rfl
        have c1 := h4.cell 1 _ rfl
        have c2 := h4.cell 2 _ rfl
        have c3 := h4.cell 3 _ rfl
        have z0 := h4.frozen 0
        have z1 := h4.frozen 1
        have z2 := h4.frozen 2
        have z3 := h4.frozen 3
        go_wp2
        refine ⟨rfl, ((((h1.setCell (p := ⟨w.heap.size + 1 + 1, 0, none⟩) (show w.heap.size ≤ w.heap.size + 1 + 1 by omega) (.int .u64 (lim (a / b) 0))).setCell (p := ⟨w.heap.size + 1 + 1, 1, none⟩) (show w.heap.size ≤ w.heap.size + 1 + 1 by omega) (.int .u64 (lim (a / b) 1))).setCell (p := ⟨w.heap.size + 1 + 1, 2, none⟩) (show w.heap.size ≤ w.heap.size + 1 + 1 by omega) (.int .u64 (lim (a / b) 2))).setCell (p := ⟨w.heap.size + 1 + 1, 3, none⟩) (show w.heap.size ≤ w.heap.size + 1 + 1 by omega) (.int .u64 (lim (a / b) 3))), ((((h2.other (p := ⟨w.heap.size + 1 + 1, 0, none⟩) nQR (.int .u64 (lim (a / b) 0))).other (p := ⟨w.heap.size + 1 + 1, 1, none⟩) nQR (.int .u64 (lim (a / b) 1))).other (p := ⟨w.heap.size + 1 + 1, 2, none⟩) nQR (.int .u64 (lim (a / b) 2))).other (p := ⟨w.heap.size + 1 + 1, 3, none⟩) nQR (.int .u64 (lim (a / b) 3))), ((((h3.other (p := ⟨w.heap.size + 1 + 1, 0, none⟩) nSR (.int .u64 (lim (a / b) 0))).other (p := ⟨w.heap.size + 1 + 1, 1, none⟩) nSR (.int .u64 (lim (a / b) 1))).other (p := ⟨w.heap.size + 1 + 1, 2, none⟩) nSR (.int .u64 (lim (a / b) 2))).other (p := ⟨w.heap.size + 1 + 1, 3, none⟩) nSR (.int .u64 (lim (a / b) 3))), ?_, ?_⟩
        · show Has _ (w.heap.size + 1 + 1) 24 (cellsIf (upd f 3 true 3) #[.int .u64 (lim (a / b) 0), .int .u64 (lim (a / b) 1), .int .u64 (lim (a / b) 2), .int .u64 (lim (a / b) 3)] #[.int .u64 0, .int .u64 0, .int .u64 0, .int .u64 0])
          rw [upd_self, cellsIf_true]
          exact ((((h4.set 0 (.int .u64 (lim (a / b) 0))).set 1 (.int .u64 (lim (a / b) 1))).set 2 (.int .u64 (lim (a / b) 2))).set 3 (.int .u64 (lim (a / b) 3)))
        · show Has _ (w.heap.size + 1 + 1 + 1) 24 (cellsIf (upd f 3 true 4) #[.int .u64 (lim (a % b) 0), .int .u64 (lim (a % b) 1), .int .u64 (lim (a % b) 2), .int .u64 (lim (a % b) 3)] #[.int .u64 0, .int .u64 0, .int .u64 0, .int .u64 0])
          rw [upd_ne f true (show (4 : Nat) ≠ 3 by decide)]
          exact ((((h5.other (p := ⟨w.heap.size + 1 + 1, 0, none⟩) (show w.heap.size + 1 + 1 + 1 ≠ w.heap.size + 1 + 1 by omega) (.int .u64 (lim (a / b) 0))).other (p := ⟨w.heap.size + 1 + 1, 1, none⟩) (show w.heap.size + 1 + 1 + 1 ≠ w.heap.size + 1 + 1 by omega) (.int .u64 (lim (a / b) 1))).other (p := ⟨w.heap.size + 1 + 1, 2, none⟩) (show w.heap.size + 1 + 1 + 1 ≠ w.heap.size + 1 + 1 by omega) (.int .u64 (lim (a / b) 2))).other (p := ⟨w.heap.size + 1 + 1, 3, none⟩) (show w.heap.size + 1 + 1 + 1 ≠ w.heap.size + 1 + 1 by omega) (.int .u64 (lim (a / b) 3)))
      simp only [Act.put, List.setIfInBounds_toArray, List.set_cons_succ, List.set_cons_zero]
      refine GW.open rfl (fun hd hf => ?_) ?_
      · rw [hf, cellsIf_false] at h5
        have c0 := h5.cell 0 _ rfl
        have c1 := h5.cell 1 _ rfl
        have c2 := h5.cell 2 _ rfl
        have c3 := h5.cell 3 _ rfl
        have z0 := h5.frozen 0
        have z1 := h5.frozen 1
        have z2 := h5.frozen 2
        have z3 := h5.frozen 3
        go_wp2
        refine ⟨rfl, ((((h1.setCell (p := ⟨w.heap.size + 1 + 1 + 1, 0, none⟩) (show w.heap.size ≤ w.heap.size + 1 + 1 + 1 by omega) (.int .u64 (lim (a % b) 0))).setCell (p := ⟨w.heap.size + 1 + 1 + 1, 1, none⟩) (show w.heap.size ≤ w.heap.size + 1 + 1 + 1 by omega) (.int .u64 (lim (a % b) 1))).setCell (p := ⟨w.heap.size + 1 + 1 + 1, 2, none⟩) (show w.heap.size ≤ w.heap.size + 1 + 1 + 1 by omega) (.int .u64 (lim (a % b) 2))).setCell (p := ⟨w.heap.size + 1 + 1 + 1, 3, none⟩) (show w.heap.size ≤ w.heap.size + 1 + 1 + 1 by omega) (.int .u64 (lim (a % b) 3))), ((((h2.other (p := ⟨w.heap.size + 1 + 1 + 1, 0, none⟩) nQT (.int .u64 (lim (a % b) 0))).other (p := ⟨w.heap.size + 1 + 1 + 1, 1, none⟩) nQT (.int .u64 (lim (a % b) 1))).other (p := ⟨w.heap.size + 1 + 1 + 1, 2, none⟩) nQT (.int .u64 (lim (a % b) 2))).other (p := ⟨w.heap.size + 1 + 1 + 1, 3, none⟩) nQT (.int .u64 (lim (a % b) 3))), ((((h3.other (p := ⟨w.heap.size + 1 + 1 + 1, 0, none⟩) nST (.int .u64 (lim (a % b) 0))).other (p := ⟨w.heap.size + 1 + 1 + 1, 1, none⟩) nST (.int .u64 (lim (a % b) 1))).other (p := ⟨w.heap.size + 1 + 1 + 1, 2, none⟩) nST (.int .u64 (lim (a % b) 2))).other (p := ⟨w.heap.size + 1 + 1 + 1, 3, none⟩) nST (.int .u64 (lim (a % b) 3))), ?_, ?_⟩
        · show Has _ (w.heap.size + 1 + 1) 24 (cellsIf (upd f 4 true 3) #[.int .u64 (lim (a / b) 0), .int .u64 (lim (a / b) 1), .int .u64 (lim (a / b) 2), .int .u64 (lim (a / b) 3)] #[.int .u64 0, .int .u64 0, .int .u64 0, .int .u64 0])
          rw [upd_ne f true (show (3 : Nat) ≠ 4 by decide)]
          exact ((((h4.other (p := ⟨w.heap.size + 1 + 1 + 1, 0, none⟩) (show w.heap.size + 1 + 1 ≠ w.heap.size + 1 + 1 + 1 by omega) (.int .u64 (lim (a % b) 0))).other (p := ⟨w.heap.size + 1 + 1 + 1, 1, none⟩) (show w.heap.size + 1 + 1 ≠ w.heap.size + 1 + 1 + 1 by omega) (.int .u64 (lim (a % b) 1))).other (p := ⟨w.heap.size + 1 + 1 + 1, 2, none⟩) (show w.heap.size + 1 + 1 ≠ w.heap.size + 1 + 1 + 1 by omega) (.int .u64 (lim (a % b) 2))).other (p := ⟨w.heap.size + 1 + 1 + 1, 3, none⟩) (show w.heap.size + 1 + 1 ≠ w.heap.size + 1 + 1 + 1 by omega) (.int .u64 (lim (a % b) 3)))
        · show Has _ (w.heap.size + 1 + 1 + 1) 24 (cellsIf (upd f 4 true 4) #[.int .u64 (lim (a % b) 0), .int .u64 (lim (a % b) 1), .int .u64 (lim (a % b) 2), .int .u64 (lim (a % b) 3)] #[.int .u64 0, .int .u64 0, .int .u64 0, .int .u64 0])
          rw [upd_self, cellsIf_true]
          exact ((((h5.set 0 (.int .u64 (lim (a % b) 0))).set 1 (.int .u64 (lim (a % b) 1))).set 2 (.int .u64 (lim (a % b) 2))).set 3 (.int .u64 (lim (a % b) 3)))
      simp only [Act.put, List.setIfInBounds_toArray, List.set_cons_succ, List.set_cons_zero]
      refine GW.nil (fun hall => ?_)
      rw [hall 3 (by omega), cellsIf_true] at h4
      rw [hall 4 (by omega), cellsIf_true] at h5
      have HR := Lib.hid h4
      have HS := Lib.hid h5
      have HQ := Lib.hid h1
      clear h1 h2 h3 h4 h5 Dn hall
      go_wp2
      refine bodyPost_ret (results_two (m := lim (a / b)) (m' := lim (a % b)) rfl rfl rfl HR.out HS.out) rfl ⟨rfl, HQ.out⟩
    · obtain ⟨m, rfl⟩ : ∃ m, k = m + 1 := ⟨k - 1, by omega⟩
      obtain rfl : z = (m : Int) := by omega
      have hm0 : (0 : Int) ≤ (m : Int) := by omega
      have hm1 : (m : Int) < 256 := by omega
      have hm : m < 256 := by omega
      have HM := Lib.hid hm
      clear hk0 hz hk hm
      have hbit := bt_lt a m
      have hd := HD.out (rdN a b (m + 1)) (bt a m) (by have h1 := HL.out (m + 1); have h2 := HWb.out; unfold W256 at *; omega) hbit (HL.out (m + 1))
      rw [show decide (bt a m = 1) = ((bt a m : Int) == 1) by rcases (show bt a m = 0 ∨ bt a m = 1 by omega) with e | e <;> rw [e] <;> rfl] at hd
      have cI : ∀ y : Ext wr, y.w.cell? ⟨g, m, none⟩ = some (.int .i64 (bt a m : Int)) := fun y => (hI.later y.below).cell HM.out
      have nS : c ≠ g := by omega
      have nSq : c ≠ c + 1 := by omega
      have sN : w.heap.size + 1 ≠ c := by omega
      have sR : w.heap.size + 1 + 1 ≠ c := by omega
      have sT : w.heap.size + 1 + 1 + 1 ≠ c := by omega
      have sN' : w.heap.size + 1 ≠ c + 1 := by omega
      have sR' : w.heap.size + 1 + 1 ≠ c + 1 := by omega
      have sT' : w.heap.size + 1 + 1 + 1 ≠ c + 1 := by omega
      have gq : g ≠ c + 1 := by omega
      have gs : g ≠ c := by omega
      have qs : c + 1 ≠ c := by omega
      have hwc : w.heap.size ≤ c := by omega
      have hwc' : w.heap.size ≤ c + 1 := by omega
      have hmx : Tryd.prog.follows .mixedOrders = true := by kernel_rfl
      clear aN aR aT aI
      by_cases hle : b ≤ 2 * rdN a b (m + 1) + bt a m
      · rw [if_pos hle, decide_eq_true hle, (rd_take a b m H0.out hle).1] at hd
        have HQ := Lib.hid (rd_take a b m H0.out hle).2
        have Hd := Lib.hid hd
        clear hd hle hbit
        have kN0 : ∀ y : Ext wr, y.w.cell? ⟨w.heap.size + 1, 0, none⟩ = some (.int .u64 (lim b 0)) := fun y => (LN.later y.below).cell 0 _ rfl
        have kN1 : ∀ y : Ext wr, y.w.cell? ⟨w.heap.size + 1, 1, none⟩ = some (.int .u64 (lim b 1)) := fun y => (LN.later y.below).cell 1 _ rfl
        have kN2 : ∀ y : Ext wr, y.w.cell? ⟨w.heap.size + 1, 2, none⟩ = some (.int .u64 (lim b 2)) := fun y => (LN.later y.below).cell 2 _ rfl
        have kN3 : ∀ y : Ext wr, y.w.cell? ⟨w.heap.size + 1, 3, none⟩ = some (.int .u64 (lim b 3)) := fun y => (LN.later y.below).cell 3 _ rfl
        have kS0 : ∀ y : Ext wr, y.w.cell? ⟨c, 0, none⟩ = some (.int .u64 (lim (rdN a b (m + 1)) 0)) := fun y => (LS.later y.below).cell 0 _ rfl
        have kS1 : ∀ y : Ext wr, y.w.cell? ⟨c, 1, none⟩ = some (.int .u64 (lim (rdN a b (m + 1)) 1)) := fun y => (LS.later y.below).cell 1 _ rfl
        have kS2 : ∀ y : Ext wr, y.w.cell? ⟨c, 2, none⟩ = some (.int .u64 (lim (rdN a b (m + 1)) 2)) := fun y => (LS.later y.below).cell 2 _ rfl
        have kS3 : ∀ y : Ext wr, y.w.cell? ⟨c, 3, none⟩ = some (.int .u64 (lim (rdN a b (m + 1)) 3)) := fun y => (LS.later y.below).cell 3 _ rfl
        go_wp2
        refine wp_region_mix (C := Grows wr) [some true, some true, some true, some true, some true, some true, some true, some true, some true, some true, some false, none, none] hmx (by kernel_rfl) (by kernel_rfl) (grows_refl wr) ?_
        simp only [headOf, tailOf]
        repeat (go_big_quiet_step (first | (with_reducible exact Ret.at Hd.out _)))
        refine wpQuiet_nil ?_
        rintro _ ⟨x, rfl⟩
        clear cI kN0 kN1 kN2 kN3 kS0 kS1 kS2 kS3
        have LS := LS.later x.below
        have fS0 := LS.frozen 0
        have fS1 := LS.frozen 1
        have fS2 := LS.frozen 2
        have fS3 := LS.frozen 3
        have cS0 := LS.cell 0 _ rfl
        have cS1 := LS.cell 1 _ rfl
        have cS2 := LS.cell 2 _ rfl
        have cS3 := LS.cell 3 _ rfl
        have LS := ((((LS.set 0 (.int .u64 (lim (rdN a b m) 0))).set 1 (.int .u64 (lim (rdN a b m) 1))).set 2 (.int .u64 (lim (rdN a b m) 2))).set 3 (.int .u64 (lim (rdN a b m) 3)))
        replace LS : Has ((((x.w.setCell ⟨c, 0, none⟩ (.int .u64 (lim (rdN a b m) 0))).setCell ⟨c, 1, none⟩ (.int .u64 (lim (rdN a b m) 1))).setCell ⟨c, 2, none⟩ (.int .u64 (lim (rdN a b m) 2))).setCell ⟨c, 3, none⟩ (.int .u64 (lim (rdN a b m) 3))) c 24 #[.int .u64 (lim (rdN a b m) 0), .int .u64 (lim (rdN a b m) 1), .int .u64 (lim (rdN a b m) 2), .int .u64 (lim (rdN a b m) 3)] := LS
        have LN := (((((LN.later x.below).other (p := ⟨c, 0, none⟩) sN (.int .u64 (lim (rdN a b m) 0))).other (p := ⟨c, 1, none⟩) sN (.int .u64 (lim (rdN a b m) 1))).other (p := ⟨c, 2, none⟩) sN (.int .u64 (lim (rdN a b m) 2))).other (p := ⟨c, 3, none⟩) sN (.int .u64 (lim (rdN a b m) 3)))
        have LR := (((((LR.later x.below).other (p := ⟨c, 0, none⟩) sR (.int .u64 (lim (rdN a b m) 0))).other (p := ⟨c, 1, none⟩) sR (.int .u64 (lim (rdN a b m) 1))).other (p := ⟨c, 2, none⟩) sR (.int .u64 (lim (rdN a b m) 2))).other (p := ⟨c, 3, none⟩) sR (.int .u64 (lim (rdN a b m) 3)))
        have LT := (((((LT.later x.below).other (p := ⟨c, 0, none⟩) sT (.int .u64 (lim (rdN a b m) 0))).other (p := ⟨c, 1, none⟩) sT (.int .u64 (lim (rdN a b m) 1))).other (p := ⟨c, 2, none⟩) sT (.int .u64 (lim (rdN a b m) 2))).other (p := ⟨c, 3, none⟩) sT (.int .u64 (lim (rdN a b m) 3)))
        have hI := (((((hI.later x.below).other (p := ⟨c, 0, none⟩) gs (.int .u64 (lim (rdN a b m) 0))).other (p := ⟨c, 1, none⟩) gs (.int .u64 (lim (rdN a b m) 1))).other (p := ⟨c, 2, none⟩) gs (.int .u64 (lim (rdN a b m) 2))).other (p := ⟨c, 3, none⟩) gs (.int .u64 (lim (rdN a b m) 3)))
        have IQ := (((((IQ.later x.below).other (p := ⟨c, 0, none⟩) qs (.int .u64 (lim (rdN a b m) 0))).other (p := ⟨c, 1, none⟩) qs (.int .u64 (lim (rdN a b m) 1))).other (p := ⟨c, 2, none⟩) qs (.int .u64 (lim (rdN a b m) 2))).other (p := ⟨c, 3, none⟩) qs (.int .u64 (lim (rdN a b m) 3)))
        have Q := (((((Q.trans (x.below.mono Q.size)).setCell (p := ⟨c, 0, none⟩) hwc (.int .u64 (lim (rdN a b m) 0))).setCell (p := ⟨c, 1, none⟩) hwc (.int .u64 (lim (rdN a b m) 1))).setCell (p := ⟨c, 2, none⟩) hwc (.int .u64 (lim (rdN a b m) 2))).setCell (p := ⟨c, 3, none⟩) hwc (.int .u64 (lim (rdN a b m) 3)))
        go_wp2
        rw [calmPost_normal]
        clear fS0 fS1 fS2 fS3 cS0 cS1 cS2 cS3
        obtain ⟨W4, hW4⟩ : ∃ W4, ((((x.w.setCell ⟨c, 0, none⟩ (.int .u64 (lim (rdN a b m) 0))).setCell ⟨c, 1, none⟩ (.int .u64 (lim (rdN a b m) 1))).setCell ⟨c, 2, none⟩ (.int .u64 (lim (rdN a b m) 2))).setCell ⟨c, 3, none⟩ (.int .u64 (lim (rdN a b m) 3))) = W4 := ⟨_, rfl⟩
        rw [hW4] at LS LN LR LT hI IQ Q ⊢
        clear hW4
        have fq := IQ.frozen m
        have cq := IQ.cell HM.out
        have N1 := Lib.hid (hI.other (p := ⟨c + 1, m, none⟩) gq (.int .i64 1))
        have N2 := IQ.set HM.out 1
        rw [HQ.out] at N2
        have N2 := Lib.hid N2
        have N3 := Lib.hid (LN.other (p := ⟨c + 1, m, none⟩) sN' (.int .i64 1))
        have N4 := Lib.hid (LR.other (p := ⟨c + 1, m, none⟩) sR' (.int .i64 1))
        have N5 := Lib.hid (LT.other (p := ⟨c + 1, m, none⟩) sT' (.int .i64 1))
        have N6 := Lib.hid (LS.other (p := ⟨c + 1, m, none⟩) nSq (.int .i64 1))
        have N7 := Lib.hid (Q.setCell (p := ⟨c + 1, m, none⟩) hwc' (.int .i64 1))
        clear hI IQ LN LR LT LS Q
        go_wp2
        go_roundw
        case rel => exact ⟨m, (m : Int) - 1, by have := HM.out; omega, rfl, rfl, N1.out, N2.out, N3.out, N4.out, N5.out, N6.out, N7.out⟩
        case measure => simp [intOf]
      · rw [if_neg hle, decide_eq_false hle, (rd_keep a b m H0.out hle).1] at hd
        have HQ := Lib.hid (rd_keep a b m H0.out hle).2
        have Hd := Lib.hid hd
        clear hd hle hbit
        have kN0 : ∀ y : Ext wr, y.w.cell? ⟨w.heap.size + 1, 0, none⟩ = some (.int .u64 (lim b 0)) := fun y => (LN.later y.below).cell 0 _ rfl
        have kN1 : ∀ y : Ext wr, y.w.cell? ⟨w.heap.size + 1, 1, none⟩ = some (.int .u64 (lim b 1)) := fun y => (LN.later y.below).cell 1 _ rfl
        have kN2 : ∀ y : Ext wr, y.w.cell? ⟨w.heap.size + 1, 2, none⟩ = some (.int .u64 (lim b 2)) := fun y => (LN.later y.below).cell 2 _ rfl
        have kN3 : ∀ y : Ext wr, y.w.cell? ⟨w.heap.size + 1, 3, none⟩ = some (.int .u64 (lim b 3)) := fun y => (LN.later y.below).cell 3 _ rfl
        have kS0 : ∀ y : Ext wr, y.w.cell? ⟨c, 0, none⟩ = some (.int .u64 (lim (rdN a b (m + 1)) 0)) := fun y => (LS.later y.below).cell 0 _ rfl
        have kS1 : ∀ y : Ext wr, y.w.cell? ⟨c, 1, none⟩ = some (.int .u64 (lim (rdN a b (m + 1)) 1)) := fun y => (LS.later y.below).cell 1 _ rfl
        have kS2 : ∀ y : Ext wr, y.w.cell? ⟨c, 2, none⟩ = some (.int .u64 (lim (rdN a b (m + 1)) 2)) := fun y => (LS.later y.below).cell 2 _ rfl
        have kS3 : ∀ y : Ext wr, y.w.cell? ⟨c, 3, none⟩ = some (.int .u64 (lim (rdN a b (m + 1)) 3)) := fun y => (LS.later y.below).cell 3 _ rfl
        go_wp2
        refine wp_region_mix (C := Grows wr) [some true, some true, some true, some true, some true, some true, some true, some true, some true, some true, some false, none, none] hmx (by kernel_rfl) (by kernel_rfl) (grows_refl wr) ?_
        simp only [headOf, tailOf]
        repeat (go_big_quiet_step (first | (with_reducible exact Ret.at Hd.out _)))
        refine wpQuiet_nil ?_
        rintro _ ⟨x, rfl⟩
        clear cI kN0 kN1 kN2 kN3 kS0 kS1 kS2 kS3
        have LS := LS.later x.below
        have fS0 := LS.frozen 0
        have fS1 := LS.frozen 1
        have fS2 := LS.frozen 2
        have fS3 := LS.frozen 3
        have cS0 := LS.cell 0 _ rfl
        have cS1 := LS.cell 1 _ rfl
        have cS2 := LS.cell 2 _ rfl
        have cS3 := LS.cell 3 _ rfl
        have LS := ((((LS.set 0 (.int .u64 (lim (rdN a b m) 0))).set 1 (.int .u64 (lim (rdN a b m) 1))).set 2 (.int .u64 (lim (rdN a b m) 2))).set 3 (.int .u64 (lim (rdN a b m) 3)))
        replace LS : Has ((((x.w.setCell ⟨c, 0, none⟩ (.int .u64 (lim (rdN a b m) 0))).setCell ⟨c, 1, none⟩ (.int .u64 (lim (rdN a b m) 1))).setCell ⟨c, 2, none⟩ (.int .u64 (lim (rdN a b m) 2))).setCell ⟨c, 3, none⟩ (.int .u64 (lim (rdN a b m) 3))) c 24 #[.int .u64 (lim (rdN a b m) 0), .int .u64 (lim (rdN a b m) 1), .int .u64 (lim (rdN a b m) 2), .int .u64 (lim (rdN a b m) 3)] := LS
        have LN := (((((LN.later x.below).other (p := ⟨c, 0, none⟩) sN (.int .u64 (lim (rdN a b m) 0))).other (p := ⟨c, 1, none⟩) sN (.int .u64 (lim (rdN a b m) 1))).other (p := ⟨c, 2, none⟩) sN (.int .u64 (lim (rdN a b m) 2))).other (p := ⟨c, 3, none⟩) sN (.int .u64 (lim (rdN a b m) 3)))
        have LR := (((((LR.later x.below).other (p := ⟨c, 0, none⟩) sR (.int .u64 (lim (rdN a b m) 0))).other (p := ⟨c, 1, none⟩) sR (.int .u64 (lim (rdN a b m) 1))).other (p := ⟨c, 2, none⟩) sR (.int .u64 (lim (rdN a b m) 2))).other (p := ⟨c, 3, none⟩) sR (.int .u64 (lim (rdN a b m) 3)))
        have LT := (((((LT.later x.below).other (p := ⟨c, 0, none⟩) sT (.int .u64 (lim (rdN a b m) 0))).other (p := ⟨c, 1, none⟩) sT (.int .u64 (lim (rdN a b m) 1))).other (p := ⟨c, 2, none⟩) sT (.int .u64 (lim (rdN a b m) 2))).other (p := ⟨c, 3, none⟩) sT (.int .u64 (lim (rdN a b m) 3)))
        have hI := (((((hI.later x.below).other (p := ⟨c, 0, none⟩) gs (.int .u64 (lim (rdN a b m) 0))).other (p := ⟨c, 1, none⟩) gs (.int .u64 (lim (rdN a b m) 1))).other (p := ⟨c, 2, none⟩) gs (.int .u64 (lim (rdN a b m) 2))).other (p := ⟨c, 3, none⟩) gs (.int .u64 (lim (rdN a b m) 3)))
        have IQ := (((((IQ.later x.below).other (p := ⟨c, 0, none⟩) qs (.int .u64 (lim (rdN a b m) 0))).other (p := ⟨c, 1, none⟩) qs (.int .u64 (lim (rdN a b m) 1))).other (p := ⟨c, 2, none⟩) qs (.int .u64 (lim (rdN a b m) 2))).other (p := ⟨c, 3, none⟩) qs (.int .u64 (lim (rdN a b m) 3)))
        have Q := (((((Q.trans (x.below.mono Q.size)).setCell (p := ⟨c, 0, none⟩) hwc (.int .u64 (lim (rdN a b m) 0))).setCell (p := ⟨c, 1, none⟩) hwc (.int .u64 (lim (rdN a b m) 1))).setCell (p := ⟨c, 2, none⟩) hwc (.int .u64 (lim (rdN a b m) 2))).setCell (p := ⟨c, 3, none⟩) hwc (.int .u64 (lim (rdN a b m) 3)))
        go_wp2
        rw [calmPost_normal]
        clear fS0 fS1 fS2 fS3 cS0 cS1 cS2 cS3
        obtain ⟨W4, hW4⟩ : ∃ W4, ((((x.w.setCell ⟨c, 0, none⟩ (.int .u64 (lim (rdN a b m) 0))).setCell ⟨c, 1, none⟩ (.int .u64 (lim (rdN a b m) 1))).setCell ⟨c, 2, none⟩ (.int .u64 (lim (rdN a b m) 2))).setCell ⟨c, 3, none⟩ (.int .u64 (lim (rdN a b m) 3))) = W4 := ⟨_, rfl⟩
        rw [hW4] at LS LN LR LT hI IQ Q ⊢
        clear hW4
        rw [HQ.out] at IQ
        have N1 := Lib.hid hI
        have N2 := Lib.hid IQ
        have N3 := Lib.hid LN
        have N4 := Lib.hid LR
        have N5 := Lib.hid LT
        have N6 := Lib.hid LS
        have N7 := Lib.hid Q
        clear hI IQ LN LR LT LS Q
        go_wp2
        go_roundw
        case rel => exact ⟨m, (m : Int) - 1, by have := HM.out; omega, rfl, rfl, N1.out, N2.out, N3.out, N4.out, N5.out, N6.out, N7.out⟩
        case measure => simp [intOf]

end Go.Proofs.YtnlcllhjhbaigaaDoor
