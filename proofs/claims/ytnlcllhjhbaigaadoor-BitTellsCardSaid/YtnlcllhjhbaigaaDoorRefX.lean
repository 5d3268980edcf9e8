/- The reference's power. -/
import Derived.Test.YtnlcllhjhbaigaaDoorRefK
namespace Go.Proofs.YtnlcllhjhbaigaaDoor
open Go Go.RowKit
attribute [local go_sem] Oper.semAt_some Grows

/-- The power by the bits from a place on. -/
def xrN (a b k : Nat) : Nat := wmod (a ^ (b / 2 ^ k))
theorem xrN_zero (a b : Nat) : xrN a b 0 = wmod (a ^ b) := by unfold xrN; rw [Nat.pow_zero, Nat.div_one]
theorem xrN_top (a b : Nat) (hb : W256 b) : xrN a b 256 = 1 := by
  unfold xrN
  rw [Nat.div_eq_of_lt (show b < 2 ^ 256 from hb), Nat.pow_zero]
  decide
theorem xrN_lt (a b k : Nat) : W256 (xrN a b k) := by unfold xrN wmod W256; exact Nat.mod_lt _ (by decide)
theorem xr_square (a b m : Nat) (h : bt b m = 0) : wmod (xrN a b (m + 1) * xrN a b (m + 1)) = xrN a b m := by
  have e : b / 2 ^ m = b / 2 ^ (m + 1) + b / 2 ^ (m + 1) := by
    unfold bt at h
    rw [Nat.pow_succ, ← Nat.div_div_eq_div_mul]
    omega
  unfold xrN wmod
  rw [← Nat.mul_mod, ← Nat.pow_add, ← e]
theorem xr_more (a b m : Nat) (h : bt b m = 1) : wmod (wmod (xrN a b (m + 1) * xrN a b (m + 1)) * a) = xrN a b m := by
  have e : b / 2 ^ m = b / 2 ^ (m + 1) + b / 2 ^ (m + 1) + 1 := by
    unfold bt at h
    rw [Nat.pow_succ, ← Nat.div_div_eq_div_mul]
    omega
  unfold xrN wmod
  rw [e]
  generalize b / 2 ^ (m + 1) = q
  rw [← Nat.mul_mod, ← Nat.pow_add, Nat.mod_mul_mod, Nat.pow_succ]


set_option maxRecDepth 100000 in
set_option maxHeartbeats 4000000 in
theorem refExp_ret (a b : Nat) (ha : W256 a) (hb : W256 b) :
    Ret Tryd.prog 30 #[wv a, wv b] (wv (wmod (a ^ b))) := by
  intro w
  have HB := Lib.hid (bits_any b)
  have HO := Lib.hid one_ret
  have HM := Lib.hid (fun x y hx hy => refMul_ret x y hx hy)
  have HT0 := xrN_top a b hb
  have HE0 := Lib.hid (xrN_zero a b)
  have HL := Lib.hid (xrN_lt a b)
  have HS1 := Lib.hid (xr_more a b)
  have HS0 := Lib.hid (xr_square a b)
  have Ha := Lib.hid ha
  have H1 : lim 1 0 = 1 ∧ lim 1 1 = 0 ∧ lim 1 2 = 0 ∧ lim 1 3 = 0 := ⟨by decide, by decide, by decide, by decide⟩
  clear ha hb
  unfold wv at HB HM ⊢
  go_enter Tryd.func30, Tryd.ntmps30
  have LX := Has.new w 24 #[.int .u64 (lim a 0), .int .u64 (lim a 1), .int .u64 (lim a 2), .int .u64 (lim a 3)]
  have k1 := LX.cell 0 _ rfl
  have k2 := LX.cell 1 _ rfl
  have k3 := LX.cell 2 _ rfl
  have k4 := LX.cell 3 _ rfl
  have LX := LX.alloc (.cells #[.int .u64 (lim b 0), .int .u64 (lim b 1), .int .u64 (lim b 2), .int .u64 (lim b 3)] 24)
  have LN := Has.new (w.alloc (.cells #[.int .u64 (lim a 0), .int .u64 (lim a 1), .int .u64 (lim a 2), .int .u64 (lim a 3)] 24)) 24 #[.int .u64 (lim b 0), .int .u64 (lim b 1), .int .u64 (lim b 2), .int .u64 (lim b 3)]
  simp only [World.size_alloc] at LN
  have k5 := LX.cell 0 _ rfl
  have k6 := LX.cell 1 _ rfl
  have k7 := LX.cell 2 _ rfl
  have k8 := LX.cell 3 _ rfl
  have k9 := LN.cell 0 _ rfl
  have k10 := LN.cell 1 _ rfl
  have k11 := LN.cell 2 _ rfl
  have k12 := LN.cell 3 _ rfl
  have LX := LX.alloc (.cells #[.int .u64 0, .int .u64 0, .int .u64 0, .int .u64 0] 24)
  have LN := LN.alloc (.cells #[.int .u64 0, .int .u64 0, .int .u64 0, .int .u64 0] 24)
  have LR := Has.new ((w.alloc (.cells #[.int .u64 (lim a 0), .int .u64 (lim a 1), .int .u64 (lim a 2), .int .u64 (lim a 3)] 24)).alloc (.cells #[.int .u64 (lim b 0), .int .u64 (lim b 1), .int .u64 (lim b 2), .int .u64 (lim b 3)] 24)) 24 #[.int .u64 0, .int .u64 0, .int .u64 0, .int .u64 0]
  simp only [World.size_alloc] at LR
  have k13 := LX.cell 0 _ rfl
  have k14 := LX.cell 1 _ rfl
  have k15 := LX.cell 2 _ rfl
  have k16 := LX.cell 3 _ rfl
  have k17 := LN.cell 0 _ rfl
  have k18 := LN.cell 1 _ rfl
  have k19 := LN.cell 2 _ rfl
  have k20 := LN.cell 3 _ rfl
  have k21 := LR.cell 0 _ rfl
  have k22 := LR.cell 1 _ rfl
  have k23 := LR.cell 2 _ rfl
  have k24 := LR.cell 3 _ rfl
  have Q := (Below.refl w.heap.size w)
  have Q := Q.alloc Q.size (.cells #[.int .u64 (lim a 0), .int .u64 (lim a 1), .int .u64 (lim a 2), .int .u64 (lim a 3)] 24)
  have Q := Q.alloc Q.size (.cells #[.int .u64 (lim b 0), .int .u64 (lim b 1), .int .u64 (lim b 2), .int .u64 (lim b 3)] 24)
  have Q := Q.alloc Q.size (.cells #[.int .u64 0, .int .u64 0, .int .u64 0, .int .u64 0] 24)
  go_wp2_with fail
  clear k1 k2 k3 k4 k5 k6 k7 k8 k9 k10 k11 k12 k13 k14 k15 k16 k17 k18 k19 k20 k21 k22 k23 k24
  obtain ⟨W1, hW1⟩ : ∃ W1, (((w.alloc (.cells #[.int .u64 (lim a 0), .int .u64 (lim a 1), .int .u64 (lim a 2), .int .u64 (lim a 3)] 24)).alloc (.cells #[.int .u64 (lim b 0), .int .u64 (lim b 1), .int .u64 (lim b 2), .int .u64 (lim b 3)] 24)).alloc (.cells #[.int .u64 0, .int .u64 0, .int .u64 0, .int .u64 0] 24)) = W1 := ⟨_, rfl⟩
  rw [hW1] at LX LN LR Q ⊢
  clear hW1
  refine (HB.out _).mono ?_
  rintro e v25 ⟨g, cap, rfl, hg, hI, q⟩
  have LX := LX.later q
  have LN := LN.later q
  have LR := LR.later q
  have Q := Q.trans (q.mono Q.size)
  clear q
  clear hg HB LN
  have k26 := LX.cell 0 _ rfl
  have k27 := LX.cell 1 _ rfl
  have k28 := LX.cell 2 _ rfl
  have k29 := LX.cell 3 _ rfl
  have k30 := LR.cell 0 _ rfl
  have k31 := LR.cell 1 _ rfl
  have k32 := LR.cell 2 _ rfl
  have k33 := LR.cell 3 _ rfl
  go_wp2_with fail
  clear k26 k27 k28 k29 k30 k31 k32 k33
  refine (HO.out _).mono ?_
  rintro e v34 ⟨rfl, q⟩
  have LX := LX.later q
  have LR := LR.later q
  have Q := Q.trans (q.mono Q.size)
  have hI := hI.later q
  clear q
  clear HO
  have aX := LX.lt
  have aR := LR.lt
  have aI := hI.lt
  have aQ := Q.size
  have LX := LX.alloc (.cells #[.int .u64 1, .int .u64 0, .int .u64 0, .int .u64 0] 24)
  have LR := LR.alloc (.cells #[.int .u64 1, .int .u64 0, .int .u64 0, .int .u64 0] 24)
  have LS := Has.new v34 24 #[.int .u64 1, .int .u64 0, .int .u64 0, .int .u64 0]
  have hI := hI.alloc (.cells #[.int .u64 1, .int .u64 0, .int .u64 0, .int .u64 0] 24)
  have Q := Q.alloc Q.size (.cells #[.int .u64 1, .int .u64 0, .int .u64 0, .int .u64 0] 24)
  go_wp2
  obtain ⟨W3, hW3⟩ : ∃ W3, v34.alloc (.cells #[.int .u64 1, .int .u64 0, .int .u64 0, .int .u64 0] 24) = W3 := ⟨_, rfl⟩
  rw [hW3] at LX LR LS hI Q ⊢
  clear hW3
  generalize v34.heap.size = c at *
  go_loopw [7] (fun i wr => ∃ (k : Nat) (z : Int), k ≤ 256 ∧ z = (k : Int) - 1 ∧ i = .int .i64 z ∧ IntsAt wr g 256 (fun j => (bt b j : Int)) ∧ Has wr (w.heap.size) 24 #[.int .u64 (lim a 0), .int .u64 (lim a 1), .int .u64 (lim a 2), .int .u64 (lim a 3)] ∧ Has wr (w.heap.size + 1 + 1) 24 #[.int .u64 0, .int .u64 0, .int .u64 0, .int .u64 0] ∧ Has wr (c) 24 #[.int .u64 (lim (xrN a b k) 0), .int .u64 (lim (xrN a b k) 1), .int .u64 (lim (xrN a b k) 2), .int .u64 (lim (xrN a b k) 3)] ∧ Below w.heap.size w wr) (fun i _ => (intOf i + 1).toNat)
  case atStart => exact ⟨256, 255, by omega, by omega, rfl, hI, LX, LR, by rw [HT0, H1.1, H1.2.1, H1.2.2.1, H1.2.2.2]; exact LS, Q⟩
  case round =>
    obtain ⟨k, z, hk, hz, rfl, hI, LX, LR, LS, Q⟩ := hrel
    clear HT0 H1
    by_cases hk0 : k = 0
    · obtain rfl : z = -1 := by omega
      subst hk0
      rw [HE0.out] at LS
      have c0 := LS.cell 0 _ rfl
      have c1 := LS.cell 1 _ rfl
      have c2 := LS.cell 2 _ rfl
      have c3 := LS.cell 3 _ rfl
      have r0 := LR.cell 0 _ rfl
      have r1 := LR.cell 1 _ rfl
      have r2 := LR.cell 2 _ rfl
      have r3 := LR.cell 3 _ rfl
      have z0 := LR.frozen 0
      have z1 := LR.frozen 1
      have z2 := LR.frozen 2
      have z3 := LR.frozen 3
      have HR := Lib.hid ((((LR.set 0 (.int .u64 (lim (wmod (a ^ b)) 0))).set 1 (.int .u64 (lim (wmod (a ^ b)) 1))).set 2 (.int .u64 (lim (wmod (a ^ b)) 2))).set 3 (.int .u64 (lim (wmod (a ^ b)) 3)))
      have HQ := Lib.hid ((((Q.setCell (p := ⟨w.heap.size + 1 + 1, 0, none⟩) (show w.heap.size ≤ w.heap.size + 1 + 1 by omega) (.int .u64 (lim (wmod (a ^ b)) 0))).setCell (p := ⟨w.heap.size + 1 + 1, 1, none⟩) (show w.heap.size ≤ w.heap.size + 1 + 1 by omega) (.int .u64 (lim (wmod (a ^ b)) 1))).setCell (p := ⟨w.heap.size + 1 + 1, 2, none⟩) (show w.heap.size ≤ w.heap.size + 1 + 1 by omega) (.int .u64 (lim (wmod (a ^ b)) 2))).setCell (p := ⟨w.heap.size + 1 + 1, 3, none⟩) (show w.heap.size ≤ w.heap.size + 1 + 1 by omega) (.int .u64 (lim (wmod (a ^ b)) 3)))
      clear Q LX LR LS hI hk hz HM HE0 HL HS1 HS0 aX aR aI aQ
      go_wp2
      refine bodyPost_ret (results_word (m := lim (wmod (a ^ b))) rfl rfl HR.out) rfl ⟨rfl, HQ.out⟩
    · obtain ⟨m, rfl⟩ : ∃ m, k = m + 1 := ⟨k - 1, by omega⟩
      obtain rfl : z = (m : Int) := by omega
      have hm0 : (0 : Int) ≤ (m : Int) := by omega
      have hm1 : (m : Int) < 256 := by omega
      have hm : m < 256 := by omega
      have HMm := Lib.hid hm
      have hm1' := HM.out _ _ (HL.out (m + 1)) (HL.out (m + 1))
      have hm2' := HM.out (wmod (xrN a b (m + 1) * xrN a b (m + 1))) a (by unfold wmod W256; exact Nat.mod_lt _ (by decide)) Ha.out
      have sX : w.heap.size ≠ c := by omega
      have sR : w.heap.size + 1 + 1 ≠ c := by omega
      have gs : g ≠ c := by omega
      have hwc : w.heap.size ≤ c := by omega
      have hb2 : bt b m = 0 ∨ bt b m = 1 := by have := bt_lt b m; omega
      clear hk0 hz hk hm HM HE0 HL aX aR aI aQ
      rcases hb2 with hbit | hbit
      · have e := HS0.out m hbit
        rw [e] at hm1' 
        have Hm1 := Lib.hid hm1'
        clear hm1' hm2' e HS1 HS0
        have cS0 := LS.cell 0 _ rfl
        have cS1 := LS.cell 1 _ rfl
        have cS2 := LS.cell 2 _ rfl
        have cS3 := LS.cell 3 _ rfl
        have cX0 := LX.cell 0 _ rfl
        have cX1 := LX.cell 1 _ rfl
        have cX2 := LX.cell 2 _ rfl
        have cX3 := LX.cell 3 _ rfl
        go_wp2_with fail
        refine (Hm1.out _).mono ?_
        rintro e v1 ⟨rfl, q⟩
        clear cS0 cS1 cS2 cS3 cX0 cX1 cX2 cX3 Hm1
        have hI := hI.later q
        have LX := LX.later q
        have LR := LR.later q
        have LS := LS.later q
        have Q := Q.trans (q.mono Q.size)
        clear q
        have d0 := LS.cell 0 _ rfl
        have f0 := LS.frozen 0
        have d1 := LS.cell 1 _ rfl
        have f1 := LS.frozen 1
        have d2 := LS.cell 2 _ rfl
        have f2 := LS.frozen 2
        have d3 := LS.cell 3 _ rfl
        have f3 := LS.frozen 3
        have hI := ((((hI.other (p := ⟨c, 0, none⟩) gs (.int .u64 (lim (xrN a b m) 0))).other (p := ⟨c, 1, none⟩) gs (.int .u64 (lim (xrN a b m) 1))).other (p := ⟨c, 2, none⟩) gs (.int .u64 (lim (xrN a b m) 2))).other (p := ⟨c, 3, none⟩) gs (.int .u64 (lim (xrN a b m) 3)))
        have LX := ((((LX.other (p := ⟨c, 0, none⟩) sX (.int .u64 (lim (xrN a b m) 0))).other (p := ⟨c, 1, none⟩) sX (.int .u64 (lim (xrN a b m) 1))).other (p := ⟨c, 2, none⟩) sX (.int .u64 (lim (xrN a b m) 2))).other (p := ⟨c, 3, none⟩) sX (.int .u64 (lim (xrN a b m) 3)))
        have LR := ((((LR.other (p := ⟨c, 0, none⟩) sR (.int .u64 (lim (xrN a b m) 0))).other (p := ⟨c, 1, none⟩) sR (.int .u64 (lim (xrN a b m) 1))).other (p := ⟨c, 2, none⟩) sR (.int .u64 (lim (xrN a b m) 2))).other (p := ⟨c, 3, none⟩) sR (.int .u64 (lim (xrN a b m) 3)))
        have LS := ((((LS.set 0 (.int .u64 (lim (xrN a b m) 0))).set 1 (.int .u64 (lim (xrN a b m) 1))).set 2 (.int .u64 (lim (xrN a b m) 2))).set 3 (.int .u64 (lim (xrN a b m) 3)))
        have Q := ((((Q.setCell (p := ⟨c, 0, none⟩) hwc (.int .u64 (lim (xrN a b m) 0))).setCell (p := ⟨c, 1, none⟩) hwc (.int .u64 (lim (xrN a b m) 1))).setCell (p := ⟨c, 2, none⟩) hwc (.int .u64 (lim (xrN a b m) 2))).setCell (p := ⟨c, 3, none⟩) hwc (.int .u64 (lim (xrN a b m) 3)))
        have cI := hI.cell HMm.out
        rw [hbit] at cI
        have N1 := Lib.hid hI
        have N2 := Lib.hid LX
        have N3 := Lib.hid LR
        have N4 := Lib.hid LS
        have N5 := Lib.hid Q
        clear hI LX LR LS Q
        go_wp2
        go_roundw
        case rel => exact ⟨m, (m : Int) - 1, by have := HMm.out; omega, rfl, rfl, N1.out, N2.out, N3.out, N4.out, N5.out⟩
        case measure => simp [intOf]
      · have e := HS1.out m hbit
        rw [e] at hm2'
        have Hm2 := Lib.hid hm2' 
        have Hm1 := Lib.hid hm1'
        clear hm1' hm2' e HS1 HS0
        generalize wmod (xrN a b (m + 1) * xrN a b (m + 1)) = u at *
        have cS0 := LS.cell 0 _ rfl
        have cS1 := LS.cell 1 _ rfl
        have cS2 := LS.cell 2 _ rfl
        have cS3 := LS.cell 3 _ rfl
        have cX0 := LX.cell 0 _ rfl
        have cX1 := LX.cell 1 _ rfl
        have cX2 := LX.cell 2 _ rfl
        have cX3 := LX.cell 3 _ rfl
        go_wp2_with fail
        refine (Hm1.out _).mono ?_
        rintro e v1 ⟨rfl, q⟩
        clear cS0 cS1 cS2 cS3 cX0 cX1 cX2 cX3 Hm1
        have hI := hI.later q
        have LX := LX.later q
        have LR := LR.later q
        have LS := LS.later q
        have Q := Q.trans (q.mono Q.size)
        clear q
        have d0 := LS.cell 0 _ rfl
        have f0 := LS.frozen 0
        have d1 := LS.cell 1 _ rfl
        have f1 := LS.frozen 1
        have d2 := LS.cell 2 _ rfl
        have f2 := LS.frozen 2
        have d3 := LS.cell 3 _ rfl
        have f3 := LS.frozen 3
        have hI := ((((hI.other (p := ⟨c, 0, none⟩) gs (.int .u64 (lim u 0))).other (p := ⟨c, 1, none⟩) gs (.int .u64 (lim u 1))).other (p := ⟨c, 2, none⟩) gs (.int .u64 (lim u 2))).other (p := ⟨c, 3, none⟩) gs (.int .u64 (lim u 3)))
        have LX := ((((LX.other (p := ⟨c, 0, none⟩) sX (.int .u64 (lim u 0))).other (p := ⟨c, 1, none⟩) sX (.int .u64 (lim u 1))).other (p := ⟨c, 2, none⟩) sX (.int .u64 (lim u 2))).other (p := ⟨c, 3, none⟩) sX (.int .u64 (lim u 3)))
        have LR := ((((LR.other (p := ⟨c, 0, none⟩) sR (.int .u64 (lim u 0))).other (p := ⟨c, 1, none⟩) sR (.int .u64 (lim u 1))).other (p := ⟨c, 2, none⟩) sR (.int .u64 (lim u 2))).other (p := ⟨c, 3, none⟩) sR (.int .u64 (lim u 3)))
        have LS := ((((LS.set 0 (.int .u64 (lim u 0))).set 1 (.int .u64 (lim u 1))).set 2 (.int .u64 (lim u 2))).set 3 (.int .u64 (lim u 3)))
        have Q := ((((Q.setCell (p := ⟨c, 0, none⟩) hwc (.int .u64 (lim u 0))).setCell (p := ⟨c, 1, none⟩) hwc (.int .u64 (lim u 1))).setCell (p := ⟨c, 2, none⟩) hwc (.int .u64 (lim u 2))).setCell (p := ⟨c, 3, none⟩) hwc (.int .u64 (lim u 3)))
        have cI := hI.cell HMm.out
        rw [hbit] at cI
        have cS0 := LS.cell 0 _ rfl
        have cS1 := LS.cell 1 _ rfl
        have cS2 := LS.cell 2 _ rfl
        have cS3 := LS.cell 3 _ rfl
        have cX0 := LX.cell 0 _ rfl
        have cX1 := LX.cell 1 _ rfl
        have cX2 := LX.cell 2 _ rfl
        have cX3 := LX.cell 3 _ rfl
        go_wp2_with fail
        replace LS : Has ((((v1.setCell ⟨c, 0, none⟩ (.int .u64 (lim u 0))).setCell ⟨c, 1, none⟩ (.int .u64 (lim u 1))).setCell ⟨c, 2, none⟩ (.int .u64 (lim u 2))).setCell ⟨c, 3, none⟩ (.int .u64 (lim u 3))) c 24 #[.int .u64 (lim u 0), .int .u64 (lim u 1), .int .u64 (lim u 2), .int .u64 (lim u 3)] := LS
        obtain ⟨W5, hW5⟩ : ∃ W5, ((((v1.setCell ⟨c, 0, none⟩ (.int .u64 (lim u 0))).setCell ⟨c, 1, none⟩ (.int .u64 (lim u 1))).setCell ⟨c, 2, none⟩ (.int .u64 (lim u 2))).setCell ⟨c, 3, none⟩ (.int .u64 (lim u 3))) = W5 := ⟨_, rfl⟩
        rw [hW5] at hI LX LR LS Q ⊢
        clear hW5 cS0 cS1 cS2 cS3 cX0 cX1 cX2 cX3 cI d0 d1 d2 d3 f0 f1 f2 f3
        refine (Hm2.out _).mono ?_
        rintro e v2 ⟨rfl, q⟩
        clear Hm2
        have hI := hI.later q
        have LX := LX.later q
        have LR := LR.later q
        have LS := LS.later q
        have Q := Q.trans (q.mono Q.size)
        clear q
        have d0 := LS.cell 0 _ rfl
        have f0 := LS.frozen 0
        have d1 := LS.cell 1 _ rfl
        have f1 := LS.frozen 1
        have d2 := LS.cell 2 _ rfl
        have f2 := LS.frozen 2
        have d3 := LS.cell 3 _ rfl
        have f3 := LS.frozen 3
        have hI := ((((hI.other (p := ⟨c, 0, none⟩) gs (.int .u64 (lim (xrN a b m) 0))).other (p := ⟨c, 1, none⟩) gs (.int .u64 (lim (xrN a b m) 1))).other (p := ⟨c, 2, none⟩) gs (.int .u64 (lim (xrN a b m) 2))).other (p := ⟨c, 3, none⟩) gs (.int .u64 (lim (xrN a b m) 3)))
        have LX := ((((LX.other (p := ⟨c, 0, none⟩) sX (.int .u64 (lim (xrN a b m) 0))).other (p := ⟨c, 1, none⟩) sX (.int .u64 (lim (xrN a b m) 1))).other (p := ⟨c, 2, none⟩) sX (.int .u64 (lim (xrN a b m) 2))).other (p := ⟨c, 3, none⟩) sX (.int .u64 (lim (xrN a b m) 3)))
        have LR := ((((LR.other (p := ⟨c, 0, none⟩) sR (.int .u64 (lim (xrN a b m) 0))).other (p := ⟨c, 1, none⟩) sR (.int .u64 (lim (xrN a b m) 1))).other (p := ⟨c, 2, none⟩) sR (.int .u64 (lim (xrN a b m) 2))).other (p := ⟨c, 3, none⟩) sR (.int .u64 (lim (xrN a b m) 3)))
        have LS := ((((LS.set 0 (.int .u64 (lim (xrN a b m) 0))).set 1 (.int .u64 (lim (xrN a b m) 1))).set 2 (.int .u64 (lim (xrN a b m) 2))).set 3 (.int .u64 (lim (xrN a b m) 3)))
        have Q := ((((Q.setCell (p := ⟨c, 0, none⟩) hwc (.int .u64 (lim (xrN a b m) 0))).setCell (p := ⟨c, 1, none⟩) hwc (.int .u64 (lim (xrN a b m) 1))).setCell (p := ⟨c, 2, none⟩) hwc (.int .u64 (lim (xrN a b m) 2))).setCell (p := ⟨c, 3, none⟩) hwc (.int .u64 (lim (xrN a b m) 3)))
        have N1 := Lib.hid hI
        have N2 := Lib.hid LX
        have N3 := Lib.hid LR
        have N4 := Lib.hid LS
        have N5 := Lib.hid Q
        clear hI LX LR LS Q
        go_wp2
        go_roundw
        case rel => exact ⟨m, (m : Int) - 1, by have := HMm.out; omega, rfl, rfl, N1.out, N2.out, N3.out, N4.out, N5.out⟩
        case measure => simp [intOf]

end Go.Proofs.YtnlcllhjhbaigaaDoor
