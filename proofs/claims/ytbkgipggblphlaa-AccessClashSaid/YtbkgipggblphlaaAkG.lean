/- Make of reference 10, at keys that may be. Conditions: the keys lie in memory. -/
import Derived.Test.YtbkgipggblphlaaAkE
import Derived.Test.YtbkgipggblphlaaAcD
namespace Go.Proofs.Ytbkgipggblphlaa
open Go Go.RowKit
attribute [local go_sem] Oper.semAt_some Grows wide_fn

theorem may_of {l : List Ky} (h : l.any strayB = false) {k : Nat} {y : Ky} (hy : l[k]? = some y) : (y.slot || decide (y.key = 0)) = true := by
  have h1 := List.any_eq_false.1 h y (List.mem_of_getElem? hy)
  unfold strayB at h1
  cases hs : y.slot
  · rw [hs] at h1
    by_cases hk : y.key = 0
    · simp [hk]
    · simp [hk] at h1
  · rfl
set_option maxRecDepth 100000 in
set_option maxHeartbeats 8000000 in
theorem rmake_any (W : World) (rv sv : Value) (r s : List Ky) (hr : KeysAt W rv r) (hs : KeysAt W sv s) (hm1 : r.any strayB = false) (hm2 : s.any strayB = false) (hlr : r.length ≤ 200) (hls : s.length ≤ 200) :
    Calls Try.prog 13 #[rv, sv] W (SetsP W (setL r) (setL s) 0) := by
  have hB := (Has.new W 24 #[.slice none 0 0, .slice none 0 0]).alloc (.cells #[rv, sv] 22)
  have hP := Has.new (W.alloc (.cells #[.slice none 0 0, .slice none 0 0] 24)) 22 #[rv, sv]
  simp only [World.size_alloc] at hP
  have hq0 := ((Below.refl W.heap.size W).alloc (Nat.le_refl _) (.cells #[.slice none 0 0, .slice none 0 0] 24)).alloc (by simp) (.cells #[rv, sv] 22)
  obtain ⟨ra, rc, rfl, _, hrm⟩ := hr.shape
  obtain ⟨sa, sc, rfl, _, hsm⟩ := hs.shape
  obtain ⟨V, hV⟩ : ∃ V, (W.alloc (.cells #[.slice none 0 0, .slice none 0 0] 24)).alloc (.cells #[.slice ra r.length rc, .slice sa s.length sc] 22) = V := ⟨_, rfl⟩
  rw [hV] at hB hP hq0
  have HR := Lib.hid (hr.later hq0)
  have HS := Lib.hid (hs.later hq0)
  have Q := Lib.hid hq0
  have HB := Lib.hid hB
  have HP := Lib.hid hP
  have HM1 := Lib.hid hm1
  have HM2 := Lib.hid hm2
  have LR := Lib.hid (show (setL r).length ≤ 200 by have := setL_take_len r r.length; rw [List.take_length] at this; omega)
  have LS := Lib.hid (show (setL s).length ≤ 200 by have := setL_take_len s s.length; rw [List.take_length] at this; omega)
  have S1 := Lib.hid (fun (X : World) (hX : Below V.heap.size V X) => rset_any X _ r (HR.out.later hX) (by omega))
  have S2 := Lib.hid (fun (X : World) (hX : Below V.heap.size V X) => rset_any X _ s (HS.out.later hX) (by omega))
  have OR := Lib.hid (setL_ok hr.all)
  have OS := Lib.hid (setL_ok hs.all)
  obtain ⟨rn, hrn⟩ : ∃ rn, r.length = rn := ⟨_, rfl⟩
  obtain ⟨sn, hsn⟩ : ∃ sn, s.length = sn := ⟨_, rfl⟩
  have HRN := Lib.hid (And.intro hrn hlr)
  have HSN := Lib.hid (And.intro hsn hls)
  rw [hrn] at HP HR S1 hV ⊢
  rw [hsn] at HP HS S2 hV ⊢
  clear hr hs hlr hls hq0 hB hP hrm hsm hm1 hm2 hrn hsn
  go_enter Try.func13, Try.ntmps13
  go_wp2_with fail
  clear hV
  go_loopw [14] (fun jv wr => ∃ j : Int, jv = .int .i64 j ∧ (j = 0 ∨ j = 1 ∨ j = 2) ∧ Below V.heap.size V wr) (fun jv _ => 2 - (intOf jv).toNat)
  case atStart => exact ⟨0, rfl, .inl rfl, Below.refl _ _⟩
  case round =>
    obtain ⟨j, rfl, hj3, hq⟩ := hrel
    have HQ := Lib.hid hq
    obtain ⟨V1, hV1⟩ : ∃ V1, V1 = wr := ⟨_, rfl⟩
    subst hV1
    clear hq
    rcases hj3 with rfl | rfl | rfl
    · have c := (HP.out.later HQ.out).cell 0 _ rfl
      go_wp2_with fail
      clear c
      go_loopw [8] (fun iv wq => ∃ k : Nat, iv = .int .i64 (k : Int) ∧ k ≤ rn ∧ Below V1.heap.size V1 wq) (fun iv _ => rn - (intOf iv).toNat)
      case atStart => exact ⟨0, rfl, by omega, Below.refl _ _⟩
      case round =>
        obtain ⟨k, rfl, hk, hq⟩ := hrel
        have HQ1 := Lib.hid (HQ.out.trans (hq.mono HQ.out.size))
        have HQ2 := Lib.hid hq
        have HK := Lib.hid hk
        clear hq
        by_cases hkn : k < rn
        · have hknI : (k : Int) < (rn : Int) := by omega
          have hk0 : (0 : Int) ≤ (k : Int) := by omega
          have hkb : (k : Int) ≤ 9223372036854775806 := by have := HRN.out; omega
          obtain ⟨y, hy⟩ : ∃ y, r[k]? = some y := ⟨_, List.getElem?_eq_getElem (by have := HRN.out; omega)⟩
          have hlk := HR.out.later HQ1.out
          obtain ⟨a', cap', e', _, _, hoks, hall⟩ := hlk
          injection e' with e1 e2 e3
          subst e1 e3
          obtain ⟨b, rfl, ay⟩ := hall k y hy
          have LY := Lib.hid (KyIn.load ay)
          have RM := Lib.hid (rmay_any wr y (hoks y (List.mem_of_getElem? hy)))
          rw [may_of HM1.out hy] at RM
          have HKK := Lib.hid hkn
          clear hkn hk ay hy hoks hall e2
          go_wp2_with (first | (refine wpList_load_known rfl _ (.tmp 26) rfl _ rfl _ LY.out ?_) | fail)
          refine RM.out.mono ?_
          rintro _ w1 ⟨rfl, hb1⟩
          have QN := Lib.hid (HQ2.out.trans (hb1.mono HQ2.out.size))
          clear hb1 RM LY
          go_wp2_with fail
          go_roundw
          case rel => exact ⟨k + 1, by simp, by have := HKK.out; omega, QN.out⟩
          case measure => have := HKK.out; simp [intOf]; omega
        · obtain rfl : k = rn := by have := HK.out; omega
          have hnn : ¬ (k : Int) < (k : Int) := by omega
          go_wp2_with fail
          go_roundw
          case rel => exact ⟨1, rfl, by simp, HQ1.out⟩
          case measure => simp [intOf]
    · have c := (HP.out.later HQ.out).cell 1 _ rfl
      go_wp2_with fail
      clear c
      go_loopw [8] (fun iv wq => ∃ k : Nat, iv = .int .i64 (k : Int) ∧ k ≤ sn ∧ Below V1.heap.size V1 wq) (fun iv _ => sn - (intOf iv).toNat)
      case atStart => exact ⟨0, rfl, by omega, Below.refl _ _⟩
      case round =>
        obtain ⟨k, rfl, hk, hq⟩ := hrel
        have HQ1 := Lib.hid (HQ.out.trans (hq.mono HQ.out.size))
        have HQ2 := Lib.hid hq
        have HK := Lib.hid hk
        clear hq
        by_cases hkn : k < sn
        · have hknI : (k : Int) < (sn : Int) := by omega
          have hk0 : (0 : Int) ≤ (k : Int) := by omega
          have hkb : (k : Int) ≤ 9223372036854775806 := by have := HSN.out; omega
          obtain ⟨y, hy⟩ : ∃ y, s[k]? = some y := ⟨_, List.getElem?_eq_getElem (by have := HSN.out; omega)⟩
          have hlk := HS.out.later HQ1.out
          obtain ⟨a', cap', e', _, _, hoks, hall⟩ := hlk
          injection e' with e1 e2 e3
          subst e1 e3
          obtain ⟨b, rfl, ay⟩ := hall k y hy
          have LY := Lib.hid (KyIn.load ay)
          have RM := Lib.hid (rmay_any wr y (hoks y (List.mem_of_getElem? hy)))
          rw [may_of HM2.out hy] at RM
          have HKK := Lib.hid hkn
          clear hkn hk ay hy hoks hall e2
          go_wp2_with (first | (refine wpList_load_known rfl _ (.tmp 26) rfl _ rfl _ LY.out ?_) | fail)
          refine RM.out.mono ?_
          rintro _ w1 ⟨rfl, hb1⟩
          have QN := Lib.hid (HQ2.out.trans (hb1.mono HQ2.out.size))
          clear hb1 RM LY
          go_wp2_with fail
          go_roundw
          case rel => exact ⟨k + 1, by simp, by have := HKK.out; omega, QN.out⟩
          case measure => have := HKK.out; simp [intOf]; omega
        · obtain rfl : k = sn := by have := HK.out; omega
          have hnn : ¬ (k : Int) < (k : Int) := by omega
          go_wp2_with fail
          go_roundw
          case rel => exact ⟨2, rfl, by simp, HQ1.out⟩
          case measure => simp [intOf]
    · go_wp2_with fail
      refine (S1.out _ HQ.out).mono ?_
      rintro _ w3 ⟨v3, rfl, hr3, hb3⟩
      have hk3 := hr3.keys OR.out
      have hb13 := HQ.out.trans (hb3.mono HQ.out.size)
      obtain ⟨a3, c3, hv3, _⟩ := hk3.shape
      subst hv3
      have K3 := Lib.hid hk3
      have QB3 := Lib.hid hb13
      clear hk3 hb3 hr3 hb13
      generalize hn3 : (setL r).length = n3 at *
      go_wp2_with fail
      refine (S2.out w3 QB3.out).mono ?_
      rintro _ w4 ⟨v4, rfl, hr4, hb4⟩
      have hk4 := hr4.keys OS.out
      have hb14 := QB3.out.trans (hb4.mono QB3.out.size)
      obtain ⟨a4, c4, hv4, _⟩ := hk4.shape
      subst hv4
      have K34 := Lib.hid (K3.out.later hb4)
      have K4 := Lib.hid hk4
      clear hk4 hb4 hr4
      generalize hn4 : (setL s).length = n4 at *
      have hBB := Has.new w4 24 #[.slice a3 n3 c3, .slice a4 n4 c4]
      have hqq := (Below.refl w4.heap.size w4).alloc (Nat.le_refl _) (.cells #[.slice a3 n3 c3, .slice a4 n4 c4] 24)
      obtain ⟨W5, hW5⟩ : ∃ W5, w4.alloc (.cells #[.slice a3 n3 c3, .slice a4 n4 c4] 24) = W5 := ⟨_, rfl⟩
      rw [hW5] at hBB hqq
      have hI3 : ¬ (200 : Int) < (n3 : Int) := by have := LR.out; omega
      have hI4 : ¬ (200 : Int) < (n4 : Int) := by have := LS.out; omega
      have Q5 := Lib.hid (hb14.trans (hqq.mono hb14.size))
      have d0 := hBB.cell 0 _ rfl
      have d1 := hBB.cell 1 _ rfl
      have b7 := HB.out.later Q5.out
      have z0 := b7.cell 0 _ rfl
      have z1 := b7.cell 1 _ rfl
      have f0 := b7.frozen 0
      have f1 := b7.frozen 1
      have hF := Lib.hid ((b7.set 0 (.slice a3 n3 c3)).set 1 (.slice a4 n4 c4))
      have QF := Lib.hid (((Q.out.trans (Q5.out.mono Q.out.size)).setCell (p := ⟨W.heap.size, 0, none⟩) (Nat.le_refl _) (.slice a3 n3 c3)).setCell (p := ⟨W.heap.size, 1, none⟩) (Nat.le_refl _) (.slice a4 n4 c4))
      have b7s : Has (W5.setCell ⟨W.heap.size, 0, none⟩ (.slice a3 n3 c3)) W.heap.size 24 #[.slice a3 n3 c3, .slice none 0 0] := b7.set 0 _
      have KA2 := Lib.hid (((K34.out.later hqq).away b7 0 (.slice a3 n3 c3)).away b7s 1 (.slice a4 n4 c4))
      have KB2 := Lib.hid (((K4.out.later hqq).away b7 0 (.slice a3 n3 c3)).away b7s 1 (.slice a4 n4 c4))
      have HLt := Lib.hid HB.out.lt
      clear b7s b7 hqq hb14 hBB
      go_wp2_with fail
      refine bodyPost_ret (results_setsB rfl rfl hF.out) rfl ?_
      exact ⟨_, _, rfl, KA2.out, KB2.out, QF.out⟩
end Go.Proofs.Ytbkgipggblphlaa
