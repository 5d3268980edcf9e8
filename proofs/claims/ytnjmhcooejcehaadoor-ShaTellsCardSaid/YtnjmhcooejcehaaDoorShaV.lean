/- The reference's block. -/
import Derived.Test.YtnjmhcooejcehaaDoorShaU
namespace Go.Proofs.YtnjmhcooejcehaaDoor
open Go Go.RowKit Go.Shelf
attribute [local go_sem] Oper.semAt_some Grows wide_fn

/-- A word of four bytes, of which m are read. -/
def wrd (D : Nat → Nat) (i : Nat) : Nat → Nat
  | 0 => 0
  | m + 1 => 256 * wrd D i m + D (4 * i + m)
theorem wrd_lt (D : Nat → Nat) (hD : ∀ j, D j < 256) (i : Nat) : ∀ m, wrd D i m < 256 ^ m
  | 0 => by show 0 < 256 ^ 0; decide
  | m + 1 => by
    have h := wrd_lt D hD i m
    have h2 := hD (4 * i + m)
    rw [Nat.pow_succ]
    show 256 * wrd D i m + D (4 * i + m) < 256 ^ m * 256
    omega
theorem scK_wrd (D : Nat → Nat) (hD : ∀ j, D j < 256) (i : Nat) : ∀ k, scK D k i = wrd D i (min (k - 4 * i) 4)
  | 0 => by rw [Nat.zero_sub]; rfl
  | k + 1 => by
    show (if i = k / 4 then (scK D k i * 256 % 2 ^ 32 ||| D k) else scK D k i) = _
    rw [scK_wrd D hD i k]
    by_cases h : i = k / 4
    · rw [if_pos h, show min (k - 4 * i) 4 = k % 4 by omega, show min (k + 1 - 4 * i) 4 = k % 4 + 1 by omega]
      have hl := wrd_lt D hD i (k % 4)
      have hp : 256 ^ (k % 4) ≤ 16777216 := by
        have := Nat.pow_le_pow_right (show 256 > 0 by omega) (show k % 4 ≤ 3 by omega)
        omega
      show _ = 256 * wrd D i (k % 4) + D (4 * i + k % 4)
      rw [show 4 * i + k % 4 = k by omega]
      have hd := hD k
      generalize wrd D i (k % 4) = x at *
      rw [Nat.mod_eq_of_lt (by omega), Nat.mul_comm x 256]
      have := Nat.two_pow_add_eq_or_of_lt (i := 8) (show D k < 2 ^ 8 by omega) x
      rw [show 256 * x = 2 ^ 8 * x from rfl, this]
    · rw [if_neg h]
      congr 1
      omega
theorem wdN_wrd (D : Nat → Nat) (hD : ∀ j, D j < 256) (i : Nat) (hi : i < 16) : wrd D i 4 = wdN D i := by
  rw [wdN_low D i hi, scK_wrd D hD i 64, show min (64 - 4 * i) 4 = 4 by omega]
theorem wdN_sum (D : Nat → Nat) (i : Nat) (h0 : 16 ≤ i) (hi : i < 64) : (wdN D (i - 16) + wdN D (i - 7) + mxN (wdN D (i - 15)) 7 18 3 true + mxN (wdN D (i - 2)) 17 19 10 true) % 4294967296 = wdN D i := by
  rw [wdN_high D i h0 hi]
  show (wdN D (i - 16) + wdN D (i - 7) + lowA (wdN D (i - 15)) + lowB (wdN D (i - 2))) % 4294967296 = _
  generalize lowA (wdN D (i - 15)) = la
  generalize lowB (wdN D (i - 2)) = lb
  omega
/-- What a round adds. -/
def tS (L : Nat → Nat) (k w : Nat) : Nat := L 7 + mxN (L 4) 6 11 25 false + chN (L 4) (L 5) (L 6) + k + w
def uS (L : Nat → Nat) : Nat := mxN (L 0) 2 13 22 false + majN (L 0) (L 1) (L 2)
theorem next_S0 (L : Nat → Nat) (k w : Nat) : (tS L k w + uS L) % 4294967296 = nextN L ((k + w) % 2 ^ 32) 0 := by
  rw [nextN_0]
  unfold tN uN tS uS
  show (L 7 + bigE (L 4) + chN (L 4) (L 5) (L 6) + k + w + (bigA (L 0) + majN (L 0) (L 1) (L 2))) % 4294967296 = _
  generalize bigE (L 4) = a
  generalize chN (L 4) (L 5) (L 6) = b
  generalize bigA (L 0) = c
  generalize majN (L 0) (L 1) (L 2) = d
  omega
theorem next_S4 (L : Nat → Nat) (k w : Nat) : (L 3 + tS L k w) % 4294967296 = nextN L ((k + w) % 2 ^ 32) 4 := by
  rw [nextN_4]
  unfold tN tS
  show (L 3 + (L 7 + bigE (L 4) + chN (L 4) (L 5) (L 6) + k + w)) % 4294967296 = _
  generalize bigE (L 4) = a
  generalize chN (L 4) (L 5) (L 6) = b
  omega

set_option maxRecDepth 100000 in
set_option maxHeartbeats 32000000 in
theorem block_any (gh ch gk ck : Nat) (H D : Nat → Nat) (s : ByteArray) (hs : s.size = 64) (hD : ∀ j, D j < 256) (hsD : ∀ j, ∀ g : j < s.size, ((s[j]'g).toNat : Int) = ((D j : Nat) : Int)) (hH : ∀ j, H j < 2 ^ 32) (w : World) (cH : CellsAt w gh 8 H) (cK : CellsAt w gk 64 kN) :
    Calls Tryd.prog 30 #[.slice (some ⟨gh, 0, none⟩) 8 ch, .slice (some ⟨gk, 0, none⟩) 64 ck, .string s] w fun e w' => ∃ h c, e = .returned (.slice (some ⟨h, 0, none⟩) 8 c) ∧ w.heap.size ≤ h ∧ RowAt w' h 8 (withN H (wdN D)) ∧ Below w.heap.size w w' := by
  have hmx : Tryd.prog.follows .mixedOrders = true := by kernel_rfl
  have hgh := cH.lt (by omega)
  have hgk := cK.lt (by omega)
  have HCH := Lib.hid cH
  have HCK := Lib.hid cK
  have HD := Lib.hid hD
  have HSD := Lib.hid hsD
  have HH := Lib.hid hH
  have HWD := Lib.hid (wdN_lt D hD)
  have hsI : (s.size : Int) = 64 := by omega
  have RN : w.ownsRow w.heap.size 3 1 (.slice none 0 0) 0 (rowI (wdN D) 0) := World.ownsRow_nil _ _ 3 1
  clear cH cK hsD hH
  go_enter Tryd.func30, Tryd.ntmps30
  go_wp2_with fail
  go_loopw [7, 8] (fun t i wr => ∃ x : Nat, x ≤ 16 ∧ i = .int .i64 (x : Int) ∧ wr.ownsRow w.heap.size 3 1 t x (rowI (wdN D) x) ∧ Below w.heap.size w wr) (fun _ i _ => 16 - (intOf i).toNat)
  case atStart => exact ⟨0, by omega, rfl, RN, Below.refl _ w⟩
  case round =>
    clear RN
    obtain ⟨x, hx, rfl, R, Q⟩ := hrel
    by_cases hx16 : x < 16
    · have hxI : (x : Int) < 16 := by omega
      have hx0 : (0 : Int) ≤ (x : Int) := by omega
      obtain ⟨o7, cap7, rfl⟩ := row_form R
      have HR := Lib.hid R
      have HQ := Lib.hid Q
      clear R Q
      go_wp2_with fail
      go_loopw [9, 10] (fun v i wr => ∃ m : Nat, m ≤ 4 ∧ i = .int .i64 (m : Int) ∧ v = .int .i64 ((wrd D x m : Nat) : Int) ∧ wr.ownsRow w.heap.size 3 1 (.slice o7 x cap7) x (rowI (wdN D) x) ∧ Below w.heap.size w wr) (fun _ i _ => 4 - (intOf i).toNat)
      case atStart => exact ⟨0, by omega, rfl, rfl, HR.out, HQ.out⟩
      case round =>
        clear HR HQ
        obtain ⟨m, hm, rfl, rfl, R, Q⟩ := hrel
        by_cases hm4 : m < 4
        · have hmI : (m : Int) < 4 := by omega
          have hm0 : (0 : Int) ≤ (m : Int) := by omega
          have ei : 4 * (x : Int) + (m : Int) = ((4 * x + m : Nat) : Int) := by omega
          have hidx : 4 * x + m < s.size := by omega
          have hval := HSD.out (4 * x + m)
          have hn := wrd_lt D hD x m
          have hp : 256 ^ m ≤ 16777216 := by
            have := Nat.pow_le_pow_right (show 256 > 0 by omega) (show m ≤ 3 by omega)
            omega
          have hd := HD.out (4 * x + m)
          have es : 256 * ((wrd D x m : Nat) : Int) + ((D (4 * x + m) : Nat) : Int) = ((wrd D x (m + 1) : Nat) : Int) := by
            show _ = ((256 * wrd D x m + D (4 * x + m) : Nat) : Int)
            omega
          have hn2 : wrd D x (m + 1) < 4294967296 := by
            show 256 * wrd D x m + D (4 * x + m) < _
            omega
          generalize hw1 : wrd D x (m + 1) = n1 at *
          have HW1 := Lib.hid hw1
          generalize D (4 * x + m) = d at *
          generalize wrd D x m = n0 at *
          generalize 4 * x + m = idx at *
          have hdI : (d : Int) < 256 := by omega
          have hn0I : (n0 : Int) < 16777216 := by omega
          have hn1I : (n1 : Int) < 4294967296 := by omega
          have hidI : (idx : Int) < 64 := by omega
          have HR := Lib.hid R
          have HQ := Lib.hid Q
          have HM4 := Lib.hid hm4
          clear R Q hw1 hn hp hd hn2 hm hm4
          go_wp2_with fail
          go_roundw
          case rel => exact ⟨m + 1, by have := HM4.out; omega, by simp, by rw [HW1.out], HR.out, HQ.out⟩
          case measure => simp [intOf]; omega
        · obtain rfl : m = 4 := by omega
          simp only [Int.cast_ofNat_Int]
          have hv := wdN_wrd D hD x hx16
          have hl := HWD.out x
          have HS := Lib.hid (rowI_succ (wdN D) x)
          rw [← hv] at HS hl
          generalize wrd D x 4 = v at *
          have hvI : (v : Int) < 4294967296 := by omega
          have HRow := Lib.hid R
          have HQ := Lib.hid Q
          have HLT := Lib.hid hx16
          obtain ⟨i0, hi, hz0', hz1, hz2⟩ := info_parts infoI
          clear R Q hv hl hx hx16 hm hm4
          go_wp2_with (at_builtin; refine wpList_append_own _ rfl _ _ 36 rfl w.heap.size 3 i0 (.int .i64 0) 1 8 Tryd.underlying36 hi hz0' hz1 hz2 rfl (by decide) _ _ _ rfl (HRow.out.alloc _) ⟨wr.heap.size, 0, none⟩ 1 1 [.int .i64 (v : Int)] rfl rfl (cell_one _ _ _) (by simp [Value.oneCell']) (by unfold maxLen; have := HLT.out; omega) (by have := HLT.out; omega) (by have := HQ.out.size; simp; omega) ?_; intro v' w3 hown' hgrow hnil)
          clear hi hz0' hz1 hz2
          go_wp2_with fail
          go_roundw
          case rel =>
            have hne := fun (r : Nat) e => ((HRow.out.alloc (.cells #[.int .i64 (v : Int)] 3)).lt r e).1
            have h1 := HLT.out
            refine ⟨x + 1, by omega, by simp, ?_, (HQ.out.alloc HQ.out.size _).grown hgrow (by have := HQ.out.size; simp; omega) (fun j e => by have := hne j e; omega)⟩
            rw [HS.out]
            exact hown'
          case measure => simp [intOf]; omega
    · obtain rfl : x = 16 := by omega
      simp only [Int.cast_ofNat_Int]
      have HR := Lib.hid R
      have HQ := Lib.hid Q
      clear R Q hx hx16
      go_wp2_with fail
      go_loopw [7, 11] (fun t i wr => ∃ x : Nat, 16 ≤ x ∧ x ≤ 64 ∧ i = .int .i64 (x : Int) ∧ wr.ownsRow w.heap.size 3 1 t x (rowI (wdN D) x) ∧ Below w.heap.size w wr) (fun _ i _ => 64 - (intOf i).toNat)
      case atStart => exact ⟨16, by omega, by omega, rfl, HR.out, HQ.out⟩
      case round =>
        clear HR HQ
        obtain ⟨x, hx0, hx, rfl, R, Q⟩ := hrel
        by_cases hx64 : x < 64
        · have hxI : (x : Int) < 64 := by omega
          have hx16 : (16 : Int) ≤ (x : Int) := by omega
          obtain ⟨g, cap7, rfl, hg0, hgc, hgl, _, hRow⟩ := owns_row (by omega) R
          have C := (hRow (wdN D) rfl).cellsAt
          have e16 : (x : Int) - 16 = ((x - 16 : Nat) : Int) := by omega
          have e7 : (x : Int) - 7 = ((x - 7 : Nat) : Int) := by omega
          have e15 : (x : Int) - 15 = ((x - 15 : Nat) : Int) := by omega
          have e2 : (x : Int) - 2 = ((x - 2 : Nat) : Int) := by omega
          have k16 : ∀ X : Ext wr, X.w.cell? ⟨g, x - 16, none⟩ = some (.int .i64 ((wdN D (x - 16) : Nat) : Int)) := fun X => (X.below.cell (p := ⟨g, _, none⟩) hgl).trans (C _ (by omega))
          have k7 : ∀ X : Ext wr, X.w.cell? ⟨g, x - 7, none⟩ = some (.int .i64 ((wdN D (x - 7) : Nat) : Int)) := fun X => (X.below.cell (p := ⟨g, _, none⟩) hgl).trans (C _ (by omega))
          have k15 : ∀ X : Ext wr, X.w.cell? ⟨g, x - 15, none⟩ = some (.int .i64 ((wdN D (x - 15) : Nat) : Int)) := fun X => (X.below.cell (p := ⟨g, _, none⟩) hgl).trans (C _ (by omega))
          have k2 : ∀ X : Ext wr, X.w.cell? ⟨g, x - 2, none⟩ = some (.int .i64 ((wdN D (x - 2) : Nat) : Int)) := fun X => (X.below.cell (p := ⟨g, _, none⟩) hgl).trans (C _ (by omega))
          have M1 : Hid (Ret Tryd.prog 34 #[.int .i64 ((wdN D (x - 15) : Nat) : Int), .int .i64 7, .int .i64 18, .int .i64 3, .bool true] (.int .i64 ((mxN (wdN D (x - 15)) 7 18 3 true : Nat) : Int))) := Lib.hid (mixed_ret (wdN D (x - 15)) 7 18 3 true (HWD.out _) (by omega) (by omega) (by omega))
          have M2 : Hid (Ret Tryd.prog 34 #[.int .i64 ((wdN D (x - 2) : Nat) : Int), .int .i64 17, .int .i64 19, .int .i64 10, .bool true] (.int .i64 ((mxN (wdN D (x - 2)) 17 19 10 true : Nat) : Int))) := Lib.hid (mixed_ret (wdN D (x - 2)) 17 19 10 true (HWD.out _) (by omega) (by omega) (by omega))
          have l1 := mxN_lt (wdN D (x - 15)) 7 18 3 true (HWD.out _)
          have l2 := mxN_lt (wdN D (x - 2)) 17 19 10 true (HWD.out _)
          have l3 := HWD.out (x - 16)
          have l4 := HWD.out (x - 7)
          have l5 := HWD.out (x - 15)
          have l6 := HWD.out (x - 2)
          have hsum := wdN_sum D x hx0 hx64
          have HS := Lib.hid (rowI_succ (wdN D) x)
          rw [← hsum] at HS
          have i16 : x - 16 < 64 := by omega
          have i7 : x - 7 < 64 := by omega
          have i15 : x - 15 < 64 := by omega
          have i2 : x - 2 < 64 := by omega
          have j16 : x - 16 < x := by omega
          have j7 : x - 7 < x := by omega
          have j15 : x - 15 < x := by omega
          have j2 : x - 2 < x := by omega
          clear hsum
          generalize mxN (wdN D (x - 15)) 7 18 3 true = m1 at *
          generalize mxN (wdN D (x - 2)) 17 19 10 true = m2 at *
          generalize wdN D (x - 16) = a16 at *
          generalize wdN D (x - 7) = a7 at *
          generalize wdN D (x - 15) = a15 at *
          generalize wdN D (x - 2) = a2 at *
          have s1 : (a16 : Int) + (a7 : Int) = ((a16 + a7 : Nat) : Int) := by omega
          have s2 : ((a16 + a7 : Nat) : Int) + (m1 : Int) = ((a16 + a7 + m1 : Nat) : Int) := by omega
          have s3 : ((a16 + a7 + m1 : Nat) : Int) + (m2 : Int) = ((a16 + a7 + m1 + m2 : Nat) : Int) := by omega
          have s4 : ((a16 + a7 + m1 + m2 : Nat) : Int).tmod 4294967296 = (((a16 + a7 + m1 + m2) % 4294967296 : Nat) : Int) := by rw [Int.tmod_eq_emod_of_nonneg (by omega)]; omega
          have b1 : a16 + a7 < 17179869184 := by omega
          have b2 : a16 + a7 + m1 < 17179869184 := by omega
          have b3 : a16 + a7 + m1 + m2 < 17179869184 := by omega
          have bv : (a16 + a7 + m1 + m2) % 4294967296 < 4294967296 := Nat.mod_lt _ (by omega)
          generalize (a16 + a7 + m1 + m2) % 4294967296 = v at *
          generalize a16 + a7 + m1 + m2 = t3 at *
          generalize a16 + a7 + m1 = t2 at *
          generalize a16 + a7 = t1 at *
          generalize x - 16 = x16 at *
          generalize x - 7 = x7 at *
          generalize x - 15 = x15 at *
          generalize x - 2 = x2 at *
          have c1 : (a16 : Int) < 4294967296 := by omega
          have c2 : (a7 : Int) < 4294967296 := by omega
          have c3 : (m1 : Int) < 4294967296 := by omega
          have c4 : (m2 : Int) < 4294967296 := by omega
          have c5 : (t1 : Int) < 17179869184 := by omega
          have c6 : (t2 : Int) < 17179869184 := by omega
          have c7 : (t3 : Int) < 17179869184 := by omega
          have d16 : (x16 : Int) < (x : Int) := by omega
          have d7 : (x7 : Int) < (x : Int) := by omega
          have d15 : (x15 : Int) < (x : Int) := by omega
          have d2 : (x2 : Int) < (x : Int) := by omega
          have HRow := Lib.hid R
          have HQ := Lib.hid Q
          have HLT := Lib.hid (And.intro hx0 hx64)
          obtain ⟨i0, hi, hz0', hz1, hz2⟩ := info_parts infoI
          clear R Q C hRow l1 l2 l3 l4 l5 l6 b1 b2 b3 bv hx0 hx hx64 hg0 hgc i16 i7 i15 i2 j16 j7 j15 j2
          go_wp2_with fail
          refine wp_region_mix (C := Grows wr) [some false, some true, some true, some true, some true, some true, some true, some true, some true, some true, some true, some true, some true, some true, some true, some true, some true, some true, some true, some true, some true, some true, some true, some true, some true, some true, some true, none, none, none] hmx (by kernel_rfl) (by kernel_rfl) (grows_refl wr) ?_
          simp only [headOf, tailOf]
          repeat (go_big_quiet_step (first | (with_reducible exact Ret.at M1.out _) | (with_reducible exact Ret.at M2.out _)))
          refine wpQuiet_nil ?_
          rintro _ ⟨X, rfl⟩
          replace HRow := Lib.hid (owns_below HRow.out X.below)
          replace HQ := Lib.hid (HQ.out.trans (X.below.mono HQ.out.size))
          clear k16 k7 k15 k2
          obtain ⟨wx, hwx⟩ : ∃ wx, X.w = wx := ⟨_, rfl⟩
          rw [hwx] at HRow HQ ⊢
          clear hwx X
          go_wp2_with (at_builtin; refine wpList_append_own _ rfl _ _ 36 rfl w.heap.size 3 i0 (.int .i64 0) 1 8 Tryd.underlying36 hi hz0' hz1 hz2 rfl (by decide) _ _ _ rfl (HRow.out.alloc _) ⟨wx.heap.size, 0, none⟩ 1 1 [.int .i64 (v : Int)] rfl rfl (cell_one _ _ _) (by simp [Value.oneCell']) (by unfold maxLen; have := HLT.out; omega) (by have := HLT.out; omega) (by have := HQ.out.size; simp; omega) ?_; intro v' w3 hown' hgrow hnil)
          clear hi hz0' hz1 hz2
          rw [calmPost_normal]
          go_wp2_with fail
          go_roundw
          case rel =>
            have hne := fun (r : Nat) e => ((HRow.out.alloc (.cells #[.int .i64 (v : Int)] 3)).lt r e).1
            have h1 := HLT.out
            refine ⟨x + 1, by omega, by omega, by simp, ?_, (HQ.out.alloc HQ.out.size _).grown hgrow (by have := HQ.out.size; simp; omega) (fun j e => by have := hne j e; omega)⟩
            rw [HS.out]
            exact hown'
          case measure => simp [intOf]; omega
        · obtain rfl : x = 64 := by omega
          simp only [Int.cast_ofNat_Int]
          have hgw := HCH.out
          obtain ⟨gw, cw, rfl, hgw0, _, hgwl, _, hW⟩ := owns_row (by omega) R
          have HCW := Lib.hid (hW (wdN D) rfl)
          have HQ := Lib.hid Q
          have HCH1 : Hid (CellsAt wr gh 8 H) := Lib.hid (HCH.out.below Q hgh)
          have HCK1 : Hid (CellsAt wr gk 64 kN) := Lib.hid (HCK.out.below Q hgk)
          have RNv := World.ownsRow_nil wr wr.heap.size 3 1
          have hnews := Lib.hid (cells_news HCH1.out)
          have hone := Lib.hid (rowI_one H 8)
          have hlen := Lib.hid (rowI_length H 8)
          have hgh1 : gh < wr.heap.size := Nat.lt_of_lt_of_le hgh Q.size
          have hgk1 : gk < wr.heap.size := Nat.lt_of_lt_of_le hgk Q.size
          have hww : w.heap.size ≤ wr.heap.size := Q.size
          obtain ⟨i0, hi, hz0', hz1, hz2⟩ := info_parts infoI
          obtain ⟨Wm, hWm⟩ : ∃ Wm, Wm = wr := ⟨_, rfl⟩
          subst hWm
          clear R Q hW hx0 hx hx64 hgw
          go_wp2_with (at_builtin; refine wpList_append_own _ rfl _ _ 36 rfl Wm.heap.size 3 i0 (.int .i64 0) 1 8 Tryd.underlying36 hi hz0' hz1 hz2 rfl (by decide) _ _ _ rfl RNv ⟨gh, 0, none⟩ 8 ch (rowI H 8) rfl hlen.out hnews.out hone.out (by decide) (by omega) (Nat.le_refl _) ?_; intro v' w4 hown' hgrow hnil)
          clear hi hz0' hz1 hz2 hnil
          rw [Nat.zero_add, List.nil_append] at hown'
          obtain ⟨gv, cv, rfl, hgv, _, hgvl, _, hV⟩ := owns_row (by omega) hown'
          have QV : Below Wm.heap.size Wm w4 := (Below.refl Wm.heap.size Wm).grown hgrow (Nat.le_refl _) (fun j e => by cases e)
          have RV : RowAt w4 gv 8 (ltrK H (wdN D) 0) := hV H rfl
          clear hV hown' hgrow RNv hnews hone hlen
          have HLK := Lib.hid (ltrK_lt H (wdN D) HH.out)
          go_wp2_with fail
          go_loopw [12, 13] (fun t i wr => ∃ k : Nat, k ≤ 64 ∧ i = .int .i64 (k : Int) ∧ (∃ gv cv : Nat, t = .slice (some ⟨gv, 0, none⟩) 8 cv ∧ Wm.heap.size ≤ gv ∧ RowAt wr gv 8 (ltrK H (wdN D) k)) ∧ Below Wm.heap.size Wm wr) (fun _ i _ => 64 - (intOf i).toNat)
          case atStart => exact ⟨0, by omega, rfl, ⟨_, _, rfl, hgv, RV⟩, QV⟩
          case round =>
            clear RV QV hgvl hgv
            obtain ⟨k, hk, rfl, ⟨gv, cv, rfl, hgv, RV⟩, Q⟩ := hrel
            by_cases hk64 : k < 64
            · have hkI : (k : Int) < 64 := by omega
              have hk0 : (0 : Int) ≤ (k : Int) := by omega
              have HST : Hid (ltrK H (wdN D) (k + 1) = nextN (ltrK H (wdN D) k) ((kN k + wdN D k) % 2 ^ 32)) := Lib.hid rfl
              have hL := HLK.out k
              have HKB := Lib.hid hk64
              have kk : ∀ X : Ext wr, X.w.cell? ⟨gk, k, none⟩ = some (.int .i64 ((kN k : Nat) : Int)) := fun X => ((Q.trans (X.below.mono Q.size)).cell (p := ⟨gk, _, none⟩) hgk1).trans (HCK1.out k hk64)
              have kw : ∀ X : Ext wr, X.w.cell? ⟨gw, k, none⟩ = some (.int .i64 ((wdN D k : Nat) : Int)) := fun X => ((Q.trans (X.below.mono Q.size)).cell (p := ⟨gw, _, none⟩) hgwl).trans (HCW.out.cellsAt k hk64)
              have lk := kN_lt k
              have lw := HWD.out k
              generalize hNXE : ltrK H (wdN D) (k + 1) = NX at *
              have HNXE := Lib.hid hNXE
              clear hNXE
              generalize ltrK H (wdN D) k = L at *
              generalize wdN D k = wk at *
              generalize kN k = kc at *
              have k0 : ∀ X : Ext wr, X.w.cell? ⟨gv, 0, none⟩ = some (.int .i64 ((L 0 : Nat) : Int)) := fun X => (RV.later X.below).cellsAt 0 (by omega)
              have k1 : ∀ X : Ext wr, X.w.cell? ⟨gv, 1, none⟩ = some (.int .i64 ((L 1 : Nat) : Int)) := fun X => (RV.later X.below).cellsAt 1 (by omega)
              have k2 : ∀ X : Ext wr, X.w.cell? ⟨gv, 2, none⟩ = some (.int .i64 ((L 2 : Nat) : Int)) := fun X => (RV.later X.below).cellsAt 2 (by omega)
              have k3 : ∀ X : Ext wr, X.w.cell? ⟨gv, 3, none⟩ = some (.int .i64 ((L 3 : Nat) : Int)) := fun X => (RV.later X.below).cellsAt 3 (by omega)
              have k4 : ∀ X : Ext wr, X.w.cell? ⟨gv, 4, none⟩ = some (.int .i64 ((L 4 : Nat) : Int)) := fun X => (RV.later X.below).cellsAt 4 (by omega)
              have k5 : ∀ X : Ext wr, X.w.cell? ⟨gv, 5, none⟩ = some (.int .i64 ((L 5 : Nat) : Int)) := fun X => (RV.later X.below).cellsAt 5 (by omega)
              have k6 : ∀ X : Ext wr, X.w.cell? ⟨gv, 6, none⟩ = some (.int .i64 ((L 6 : Nat) : Int)) := fun X => (RV.later X.below).cellsAt 6 (by omega)
              have k7 : ∀ X : Ext wr, X.w.cell? ⟨gv, 7, none⟩ = some (.int .i64 ((L 7 : Nat) : Int)) := fun X => (RV.later X.below).cellsAt 7 (by omega)
              have M1 : Hid (Ret Tryd.prog 34 #[.int .i64 ((L 4 : Nat) : Int), .int .i64 6, .int .i64 11, .int .i64 25, .bool false] (.int .i64 ((mxN (L 4) 6 11 25 false : Nat) : Int))) := Lib.hid (mixed_ret (L 4) 6 11 25 false (hL 4) (by omega) (by omega) (by omega))
              have M2 : Hid (Ret Tryd.prog 34 #[.int .i64 ((L 0 : Nat) : Int), .int .i64 2, .int .i64 13, .int .i64 22, .bool false] (.int .i64 ((mxN (L 0) 2 13 22 false : Nat) : Int))) := Lib.hid (mixed_ret (L 0) 2 13 22 false (hL 0) (by omega) (by omega) (by omega))
              have P1 := Lib.hid (picked_ret (L 4) (L 5) (L 6) (hL 4) (hL 5) (hL 6))
              have P2 := Lib.hid (most_ret (L 0) (L 1) (L 2) (hL 0) (hL 1) (hL 2))
              have n0 := next_S0 L kc wk
              have n4 := next_S4 L kc wk
              have nj : ∀ j, j ≠ 0 → j ≠ 4 → NX j = L (j - 1) := fun j h0 h4 => by rw [HST.out]; exact nextN_j L _ j h0 h4
              rw [← HST.out] at n0 n4
              have g1 := mxN_lt (L 4) 6 11 25 false (hL 4)
              have g2 := mxN_lt (L 0) 2 13 22 false (hL 0)
              have g3 := chN_lt (L 4) (L 5) (L 6) (hL 4) (hL 6)
              have g4 := majN_lt (L 0) (L 1) (L 2) (hL 0) (hL 1)
              unfold tS uS at n0
              unfold tS at n4
              generalize mxN (L 4) 6 11 25 false = m1 at *
              generalize mxN (L 0) 2 13 22 false = m2 at *
              generalize chN (L 4) (L 5) (L 6) = c1 at *
              generalize majN (L 0) (L 1) (L 2) = c2 at *
              have hl7 := hL 7
              have hl3 := hL 3
              have hl0 := hL 0
              have hl1 := hL 1
              have hl2 := hL 2
              have hl4 := hL 4
              have hl5 := hL 5
              have hl6 := hL 6
              have s1 : ((L 7 : Nat) : Int) + (m1 : Int) = ((L 7 + m1 : Nat) : Int) := by omega
              have s2 : ((L 7 + m1 : Nat) : Int) + (c1 : Int) = ((L 7 + m1 + c1 : Nat) : Int) := by omega
              have s3 : ((L 7 + m1 + c1 : Nat) : Int) + (kc : Int) = ((L 7 + m1 + c1 + kc : Nat) : Int) := by omega
              have s4 : ((L 7 + m1 + c1 + kc : Nat) : Int) + (wk : Int) = ((L 7 + m1 + c1 + kc + wk : Nat) : Int) := by omega
              have s5 : (m2 : Int) + (c2 : Int) = ((m2 + c2 : Nat) : Int) := by omega
              have r1 : L 7 + m1 < 34359738368 := by omega
              have r2 : L 7 + m1 + c1 < 34359738368 := by omega
              have r3 : L 7 + m1 + c1 + kc < 34359738368 := by omega
              have r4 : L 7 + m1 + c1 + kc + wk < 34359738368 := by omega
              have r5 : m2 + c2 < 34359738368 := by omega
              generalize L 7 + m1 + c1 + kc + wk = tt at *
              generalize L 7 + m1 + c1 + kc = t3 at *
              generalize L 7 + m1 + c1 = t2 at *
              generalize L 7 + m1 = t1 at *
              generalize m2 + c2 = uu at *
              have s6 : (tt : Int) + (uu : Int) = ((tt + uu : Nat) : Int) := by omega
              have s7 : ((tt + uu : Nat) : Int).tmod 4294967296 = ((NX 0 : Nat) : Int) := by rw [Int.tmod_eq_emod_of_nonneg (by omega), ← n0]; omega
              have s8 : ((L 3 : Nat) : Int) + (tt : Int) = ((L 3 + tt : Nat) : Int) := by omega
              have s9 : ((L 3 + tt : Nat) : Int).tmod 4294967296 = ((NX 4 : Nat) : Int) := by rw [Int.tmod_eq_emod_of_nonneg (by omega), ← n4]; omega
              have b6 : tt + uu < 68719476736 := by omega
              have b8 : L 3 + tt < 68719476736 := by omega
              generalize tt + uu = tu at *
              generalize L 3 + tt = lt3 at *
              have NJ := Lib.hid nj
              clear n0 n4 nj hL
              have q1 : (t1 : Int) < 34359738368 := by omega
              have q2 : (t2 : Int) < 34359738368 := by omega
              have q3 : (t3 : Int) < 34359738368 := by omega
              have q4 : (tt : Int) < 34359738368 := by omega
              have q5 : (uu : Int) < 34359738368 := by omega
              have q6 : (tu : Int) < 68719476736 := by omega
              have q8 : (lt3 : Int) < 68719476736 := by omega
              have p1 : (m1 : Int) < 4294967296 := by omega
              have p2 : (m2 : Int) < 4294967296 := by omega
              have p3 : (c1 : Int) < 4294967296 := by omega
              have p4 : (c2 : Int) < 4294967296 := by omega
              have p5 : (kc : Int) < 4294967296 := by omega
              have p6 : (wk : Int) < 4294967296 := by omega
              have v7 : ((L 7 : Nat) : Int) < 4294967296 := by omega
              have v3 : ((L 3 : Nat) : Int) < 4294967296 := by omega
              generalize hl_0 : L 0 = a0 at *
              generalize hl_1 : L 1 = a1 at *
              generalize hl_2 : L 2 = a2 at *
              generalize hl_3 : L 3 = a3 at *
              generalize hl_4 : L 4 = a4 at *
              generalize hl_5 : L 5 = a5 at *
              generalize hl_6 : L 6 = a6 at *
              generalize hl_7 : L 7 = a7 at *
              have HLJ := Lib.hid (And.intro hl_0 (And.intro hl_1 (And.intro hl_2 (And.intro hl_4 (And.intro hl_5 hl_6)))))
              have HLV := Lib.hid (And.intro hl_0 (And.intro hl_1 (And.intro hl_2 (And.intro hl_3 (And.intro hl_4 (And.intro hl_5 (And.intro hl_6 hl_7)))))))
              clear hl_0 hl_1 hl_2 hl_3 hl_4 hl_5 hl_6 hl_7 lk lw g1 g2 g3 g4 hl7 hl3 hl0 hl1 hl2 hl4 hl5 hl6 r1 r2 r3 r4 r5 b6 b8
              generalize hn0' : NX 0 = x0 at *
              generalize hn4' : NX 4 = x4 at *
              have HNX := Lib.hid (And.intro hn0' hn4')
              clear hn0' hn4'
              have HQ1 := Lib.hid Q
              have HRV := Lib.hid RV
              have HGV := Lib.hid hgv
              clear Q RV hgv hk hk64
              go_wp2_with fail
              refine wp_region_quick (C := Grows wr) (by kernel_rfl) (by kernel_rfl) (by kernel_rfl) (grows_refl wr) ?_
              repeat (go_big_quiet_step (first | (with_reducible exact Ret.at M1.out _) | (with_reducible exact Ret.at P1.out _)))
              refine wpQuiet_nil ?_
              rintro _ ⟨X, rfl⟩
              replace HQ1 := Lib.hid (HQ1.out.trans (X.below.mono HQ1.out.size))
              replace HRV := Lib.hid (HRV.out.later X.below)
              clear kk kw k0 k1 k2 k3 k4 k5 k6 k7
              obtain ⟨wa, hwa⟩ : ∃ wa, X.w = wa := ⟨_, rfl⟩
              rw [hwa] at HQ1 HRV ⊢
              clear hwa X
              have k0 : ∀ X : Ext wa, X.w.cell? ⟨gv, 0, none⟩ = some (.int .i64 ((a0 : Nat) : Int)) := fun X => by rw [← HLV.out.1]; exact (HRV.out.later X.below).cellsAt 0 (by omega)
              have k1 : ∀ X : Ext wa, X.w.cell? ⟨gv, 1, none⟩ = some (.int .i64 ((a1 : Nat) : Int)) := fun X => by rw [← HLV.out.2.1]; exact (HRV.out.later X.below).cellsAt 1 (by omega)
              have k2 : ∀ X : Ext wa, X.w.cell? ⟨gv, 2, none⟩ = some (.int .i64 ((a2 : Nat) : Int)) := fun X => by rw [← HLV.out.2.2.1]; exact (HRV.out.later X.below).cellsAt 2 (by omega)
              have k3 : ∀ X : Ext wa, X.w.cell? ⟨gv, 3, none⟩ = some (.int .i64 ((a3 : Nat) : Int)) := fun X => by rw [← HLV.out.2.2.2.1]; exact (HRV.out.later X.below).cellsAt 3 (by omega)
              have k4 : ∀ X : Ext wa, X.w.cell? ⟨gv, 4, none⟩ = some (.int .i64 ((a4 : Nat) : Int)) := fun X => by rw [← HLV.out.2.2.2.2.1]; exact (HRV.out.later X.below).cellsAt 4 (by omega)
              have k5 : ∀ X : Ext wa, X.w.cell? ⟨gv, 5, none⟩ = some (.int .i64 ((a5 : Nat) : Int)) := fun X => by rw [← HLV.out.2.2.2.2.2.1]; exact (HRV.out.later X.below).cellsAt 5 (by omega)
              have k6 : ∀ X : Ext wa, X.w.cell? ⟨gv, 6, none⟩ = some (.int .i64 ((a6 : Nat) : Int)) := fun X => by rw [← HLV.out.2.2.2.2.2.2.1]; exact (HRV.out.later X.below).cellsAt 6 (by omega)
              have k7 : ∀ X : Ext wa, X.w.cell? ⟨gv, 7, none⟩ = some (.int .i64 ((a7 : Nat) : Int)) := fun X => by rw [← HLV.out.2.2.2.2.2.2.2]; exact (HRV.out.later X.below).cellsAt 7 (by omega)
              go_wp2_with fail
              refine wp_region_quietL (C := Grows wa) hmx (by kernel_rfl) (grows_refl wa) ?_
              repeat (go_big_quiet_step (first | (with_reducible exact Ret.at M2.out _) | (with_reducible exact Ret.at P2.out _)))
              refine wpQuiet_nil ?_
              rintro _ ⟨X, rfl⟩
              replace HQ1 := Lib.hid (HQ1.out.trans (X.below.mono HQ1.out.size))
              replace HRV := Lib.hid (HRV.out.later X.below)
              clear k0 k1 k2 k3 k4 k5 k6 k7
              obtain ⟨wb, hwb⟩ : ∃ wb, X.w = wb := ⟨_, rfl⟩
              rw [hwb] at HQ1 HRV ⊢
              clear hwb X
              have k0 : ∀ X : Ext wb, X.w.cell? ⟨gv, 0, none⟩ = some (.int .i64 ((a0 : Nat) : Int)) := fun X => by rw [← HLV.out.1]; exact (HRV.out.later X.below).cellsAt 0 (by omega)
              have k1 : ∀ X : Ext wb, X.w.cell? ⟨gv, 1, none⟩ = some (.int .i64 ((a1 : Nat) : Int)) := fun X => by rw [← HLV.out.2.1]; exact (HRV.out.later X.below).cellsAt 1 (by omega)
              have k2 : ∀ X : Ext wb, X.w.cell? ⟨gv, 2, none⟩ = some (.int .i64 ((a2 : Nat) : Int)) := fun X => by rw [← HLV.out.2.2.1]; exact (HRV.out.later X.below).cellsAt 2 (by omega)
              have k3 : ∀ X : Ext wb, X.w.cell? ⟨gv, 3, none⟩ = some (.int .i64 ((a3 : Nat) : Int)) := fun X => by rw [← HLV.out.2.2.2.1]; exact (HRV.out.later X.below).cellsAt 3 (by omega)
              have k4 : ∀ X : Ext wb, X.w.cell? ⟨gv, 4, none⟩ = some (.int .i64 ((a4 : Nat) : Int)) := fun X => by rw [← HLV.out.2.2.2.2.1]; exact (HRV.out.later X.below).cellsAt 4 (by omega)
              have k5 : ∀ X : Ext wb, X.w.cell? ⟨gv, 5, none⟩ = some (.int .i64 ((a5 : Nat) : Int)) := fun X => by rw [← HLV.out.2.2.2.2.2.1]; exact (HRV.out.later X.below).cellsAt 5 (by omega)
              have k6 : ∀ X : Ext wb, X.w.cell? ⟨gv, 6, none⟩ = some (.int .i64 ((a6 : Nat) : Int)) := fun X => by rw [← HLV.out.2.2.2.2.2.2.1]; exact (HRV.out.later X.below).cellsAt 6 (by omega)
              have k7 : ∀ X : Ext wb, X.w.cell? ⟨gv, 7, none⟩ = some (.int .i64 ((a7 : Nat) : Int)) := fun X => by rw [← HLV.out.2.2.2.2.2.2.2]; exact (HRV.out.later X.below).cellsAt 7 (by omega)
              go_wp2_with fail
              refine wp_region_mix (C := Grows wb) [some true, some true, some true, some true, some true, some true, some true, some true, some true, some true, some true, some true, some true, some true, some true, some true, some true, some true, some true, some true, some true, some true, some true, some true, some true, some true, some true, some true, none, none] hmx (by kernel_rfl) (by kernel_rfl) (grows_refl wb) ?_
              simp only [headOf, tailOf]
              repeat (go_big_quiet_step (fail))
              refine wpQuiet_nil ?_
              rintro _ ⟨X, rfl⟩
              have hb := HQ1.out.trans (X.below.mono HQ1.out.size)
              have RF : RowAt (X.w.alloc (.cells #[.int .i64 (x0 : Int), .int .i64 (a0 : Int), .int .i64 (a1 : Int), .int .i64 (a2 : Int), .int .i64 (x4 : Int), .int .i64 (a4 : Int), .int .i64 (a5 : Int), .int .i64 (a6 : Int)] 3)) X.w.heap.size 8 NX :=
                ⟨_, Has.new X.w 3 _, fun j hj => by
                  obtain ⟨l0, l1, l2, l4, l5, l6⟩ := HLJ.out
                  match j, hj with
                  | 0, _ => rw [HNX.out.1]; rfl
                  | 1, _ => rw [NJ.out 1 (by decide) (by decide), l0]; rfl
                  | 2, _ => rw [NJ.out 2 (by decide) (by decide), l1]; rfl
                  | 3, _ => rw [NJ.out 3 (by decide) (by decide), l2]; rfl
                  | 4, _ => rw [HNX.out.2]; rfl
                  | 5, _ => rw [NJ.out 5 (by decide) (by decide), l4]; rfl
                  | 6, _ => rw [NJ.out 6 (by decide) (by decide), l5]; rfl
                  | 7, _ => rw [NJ.out 7 (by decide) (by decide), l6]; rfl⟩
              have HRF := Lib.hid RF
              have HQF := Lib.hid (hb.alloc hb.size (.cells #[.int .i64 (x0 : Int), .int .i64 (a0 : Int), .int .i64 (a1 : Int), .int .i64 (a2 : Int), .int .i64 (x4 : Int), .int .i64 (a4 : Int), .int .i64 (a5 : Int), .int .i64 (a6 : Int)] 3))
              have HGF := Lib.hid hb.size
              clear RF hb HQ1 HRV k0 k1 k2 k3 k4 k5 k6 k7
              go_wp2
              rw [calmPost_normal]
              go_wp2_with fail
              go_roundw
              case rel => exact ⟨k + 1, by have := HKB.out; omega, by simp, ⟨_, _, rfl, HGF.out, by rw [HNXE.out]; exact HRF.out⟩, HQF.out⟩
              case measure => simp [intOf]; have := HKB.out; omega
            · obtain rfl : k = 64 := by omega
              simp only [Int.cast_ofNat_Int]
              have QG := HQ.out.trans (Q.mono HQ.out.size)
              have HCH2 := Lib.hid (HCH1.out.below Q hgh1)
              have HGV := Lib.hid (And.intro hgv (Nat.le_trans hww hgv))
              have hH := HH.out
              have hLL := HLK.out 64
              have HWI : Hid (∀ j, withN H (wdN D) j = (H j + ltrK H (wdN D) 64 j) % 2 ^ 32) := Lib.hid (fun j => rfl)
              generalize hFF : withN H (wdN D) = FF at *
              have HFF := Lib.hid hFF
              clear hFF
              generalize ltrK H (wdN D) 64 = LL at *
              have hup0 : ∀ j, j < 8 → upN FF LL 0 j = LL j := fun j _ => by unfold upN; rw [if_neg (by omega)]
              have HRV := Lib.hid (RV.congr hup0)
              have HQG := Lib.hid QG
              clear RV Q QG hk hk64 hgv hup0
              go_wp2_with fail
              go_loopw [16] (fun i wr => ∃ j : Nat, j ≤ 8 ∧ i = .int .i64 (j : Int) ∧ RowAt wr gv 8 (upN FF LL j) ∧ CellsAt wr gh 8 H ∧ Below w.heap.size w wr) (fun i _ => 8 - (intOf i).toNat)
              case atStart => exact ⟨0, by omega, rfl, HRV.out, HCH2.out, HQG.out⟩
              case round =>
                clear HRV HCH2 HQG
                obtain ⟨j, hj, rfl, RV, CH, Q⟩ := hrel
                by_cases hj8 : j < 8
                · have hjI : (j : Int) < 8 := by omega
                  have hj0 : (0 : Int) ≤ (j : Int) := by omega
                  have uj : upN FF LL j j = LL j := if_neg (by omega)
                  have ka : ∀ X : Ext wr, X.w.cell? ⟨gv, j, none⟩ = some (.int .i64 ((LL j : Nat) : Int)) := fun X => by rw [← uj]; exact (RV.later X.below).cellsAt j hj8
                  have kb : ∀ X : Ext wr, X.w.cell? ⟨gh, j, none⟩ = some (.int .i64 ((H j : Nat) : Int)) := fun X => (X.below.cell (p := ⟨gh, _, none⟩) (CH.lt (by omega))).trans (CH j hj8)
                  have l1 := hLL j
                  have l2 := hH j
                  have hw := HWI.out j
                  have s1 : ((LL j : Nat) : Int) + ((H j : Nat) : Int) = ((LL j + H j : Nat) : Int) := by omega
                  have s2 : ((LL j + H j : Nat) : Int).tmod 4294967296 = ((FF j : Nat) : Int) := by rw [Int.tmod_eq_emod_of_nonneg (by omega), hw]; omega
                  have l3 : LL j + H j < 8589934592 := by omega
                  have HB : Hid (∀ i, i < 8 → upN FF LL (j + 1) i = if i = j then FF j else upN FF LL j i) := Lib.hid (fun i _ => upN_set FF LL j i (by omega))
                  have HRV := Lib.hid RV
                  have HCH3 := Lib.hid CH
                  have HQ3 := Lib.hid Q
                  have HJ8 := Lib.hid hj8
                  clear RV CH Q uj hw hj hj8
                  generalize FF j = f at *
                  generalize LL j + H j = sm at *
                  generalize LL j = lj at *
                  generalize H j = hj' at *
                  have smI : (sm : Int) < 8589934592 := by omega
                  have ljI : (lj : Int) < 4294967296 := by omega
                  have hjI' : (hj' : Int) < 4294967296 := by omega
                  clear l1 l2 l3
                  go_wp2_with fail
                  refine wp_region_mix (C := Grows wr) [some true, some true, some true, some true, some true, some true, some true, some true, some true, some true, some true, some true, some true, none] hmx (by kernel_rfl) (by kernel_rfl) (grows_refl wr) ?_
                  simp only [headOf, tailOf]
                  repeat (go_big_quiet_step (fail))
                  refine wpQuiet_nil ?_
                  rintro _ ⟨X, rfl⟩
                  have kk := ka X
                  have kz := (HRV.out.later X.below).frozen j
                  have N1 := Lib.hid ((HRV.out.later X.below).set (B := upN FF LL (j + 1)) j f HB.out)
                  have N2 : Hid (CellsAt (X.w.setCell ⟨gv, j, none⟩ (.int .i64 ((f : Nat) : Int))) gh 8 H) := Lib.hid ((HCH3.out.below X.below (HCH3.out.lt (by omega))).below ((Below.refl gv X.w).setCell (p := ⟨gv, j, none⟩) (Nat.le_refl _) _) (by have := HGV.out.1; omega))
                  have N3 := Lib.hid ((HQ3.out.trans (X.below.mono HQ3.out.size)).setCell (p := ⟨gv, j, none⟩) HGV.out.2 (.int .i64 ((f : Nat) : Int)))
                  clear ka kb HRV HCH3 HQ3 HB
                  go_wp2
                  rw [calmPost_normal]
                  go_wp2_with fail
                  go_roundw
                  case rel => exact ⟨j + 1, by have := HJ8.out; omega, by simp, N1.out, N2.out, N3.out⟩
                  case measure => simp [intOf]; omega
                · obtain rfl : j = 8 := by omega
                  simp only [Int.cast_ofNat_Int]
                  have HRF := Lib.hid (RV.congr (B := FF) (fun i hi => by unfold upN; rw [if_pos hi]))
                  have HQ3 := Lib.hid Q
                  clear RV CH Q
                  go_wp2_with fail
                  go_ret
                  first | exact ⟨_, _, rfl, HGV.out.2, by rw [HFF.out]; exact HRF.out, HQ3.out⟩ | exact ⟨_, ⟨_, rfl⟩, HGV.out.2, by rw [HFF.out]; exact HRF.out, HQ3.out⟩
end Go.Proofs.YtnjmhcooejcehaaDoor
