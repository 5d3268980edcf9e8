/- One more bit behind a rest that is less than a divisor. For every rest and divisor. -/
import Derived.Test.YtnlcllhjhbaigaaDivA
import Derived.Test.YtnlcllhjhbaigaaRefA
namespace Go.Proofs.Ytnlcllhjhbaigaa
open Go Go.RowKit Go.Shelf
attribute [local go_sem] Oper.semAt_some Grows wide_fn

theorem grown_ext {w W W' : World} {row : Option Nat} (h : w.grownBy W row) (hb : Below W.heap.size W W') : w.grownBy W' row := grown_then_below h hb

set_option maxRecDepth 100000 in
set_option maxHeartbeats 4000000 in
theorem bringDown_any (r b bit br bb : Nat) (hr : r < b) (hb : W256 b) (hbit : bit ≤ 1) (hne : br ≠ bb) (w : World) (hR : Arr4 w br 24 (lim r)) (hB : Arr4 w bb 24 (lim b)) :
    Calls Try.prog 43 #[.pointer (some ⟨br, 0, none⟩), .pointer (some ⟨bb, 0, none⟩), .int .u64 (bit : Int)] w fun e w' =>
      e = .returned (.bool (decide (b ≤ 2 * r + bit))) ∧ Arr4 w' br 24 (lim (bdR r b bit)) ∧ w.grownBy w' (some br) := by
  have hr' : W256 r := by unfold W256 at *; omega
  have HDBL := Lib.hid (dbl_all r bit hr' hbit).1
  have HSUB := Lib.hid (sub_all (wmod (2 * r + bit)) b (wmod_lt _) hb).1
  have HDB := Lib.hid (dcA_bit r bit hbit)
  have HSB := Lib.hid (sbA_bit (wmod (2 * r + bit)) b)
  have HSHORT := Lib.hid (fun h => bd_short r b bit hb hr hbit h)
  have HLONG := Lib.hid (fun h => bd_long r b bit hb hr hbit h)
  have hlB := hB.lt
  have G0 : w.grownBy w (some br) := grown_of_below (Below.refl _ w) _
  have hbit0 : (0 : Int) ≤ (bit : Int) := by omega
  have hbit1 : (bit : Int) ≤ 1 := by omega
  have hnb : some bb ≠ some br := fun e => hne (by injection e with e; exact e.symm)
  go_enter Try.func43, Try.ntmps43
  go_wp2
  go_loopw [7, 8, 15] (fun ov sh q wr => ∃ k : Nat, k ≤ 4 ∧ q = .int .i64 (k : Int) ∧ ov = .int .u64 (dcA r bit k) ∧ sh = .int .u64 (sbA (wmod (2 * r + bit)) b k) ∧ Arr4 wr br 24 (fun j => if j < k then lim (wmod (2 * r + bit)) j else lim r j) ∧ w.grownBy wr (some br)) (fun _ _ q _ => 4 - (intOf q).toNat)
  case atStart => exact ⟨0, by omega, rfl, rfl, rfl, hR.same4 rfl rfl rfl rfl, G0⟩
  case round =>
    obtain ⟨k, hk, rfl, rfl, rfl, aR, G⟩ := hrel
    clear hR G0
    have aB := hB.kept G hnb
    by_cases hlt : k < 4
    · have hkI : (k : Int) < 4 := by omega
      have hk0 : (0 : Int) ≤ (k : Int) := by omega
      have cR := aR.cell hlt
      rw [if_neg (by omega)] at cR
      have cB := aB.cell hlt
      have hd := HDB.out k
      have hs := HSB.out k
      have uR := lim_u64 r k
      have uB := lim_u64 b k
      have hdl := HDBL.out k hlt
      have e1 : (lim r k + lim r k + dcA r bit k) % 18446744073709551616 = lim (wmod (2 * r + bit)) k := hdl
      have e2 : (lim r k + lim r k + dcA r bit k) / 18446744073709551616 = dcA r bit (k + 1) := rfl
      have A1 : ∀ W, (callFunc 60 #[.int .u64 (lim r k), .int .u64 (lim r k), .int .u64 (dcA r bit k)]).run Try.prog W = .ok (.value (.tuple #[.int .u64 (lim (wmod (2 * r + bit)) k), .int .u64 (dcA r bit (k + 1))])) W := fun W => by
        have h := run_addc (lim r k) (lim r k) (dcA r bit k) uR uR hd W
        rwa [e1, e2] at h
      have uT := lim_u64 (wmod (2 * r + bit)) k
      have e3 : (if lim (wmod (2 * r + bit)) k < lim b k + sbA (wmod (2 * r + bit)) b k then (1 : Int) else 0) = sbA (wmod (2 * r + bit)) b (k + 1) := rfl
      have S1 : ∀ W, (callFunc 61 #[.int .u64 (lim (wmod (2 * r + bit)) k), .int .u64 (lim b k), .int .u64 (sbA (wmod (2 * r + bit)) b k)]).run Try.prog W = .ok (.value (.tuple #[.int .u64 ((lim (wmod (2 * r + bit)) k - lim b k - sbA (wmod (2 * r + bit)) b k) % 18446744073709551616), .int .u64 (sbA (wmod (2 * r + bit)) b (k + 1))])) W := fun W => by
        have h := run_subc (lim (wmod (2 * r + bit)) k) (lim b k) (sbA (wmod (2 * r + bit)) b k) uT uB hs W
        rwa [e3] at h
      have HK := Lib.hid hlt
      have HAR := Lib.hid aR
      have HAB := Lib.hid aB
      have HG := Lib.hid G
      have hmx : Try.prog.follows .mixedOrders = true := by kernel_rfl
      have r1 : ∀ x : Ext wr, x.w.cell? ⟨br, k, none⟩ = some (.int .u64 (lim r k)) := fun x => (x.cell (p := ⟨br, k, none⟩) HAR.out.lt).trans cR
      clear hk hlt hd hs uR uB uT hdl e1 e2 e3 aR aB G
      generalize hRk : lim r k = rk at *
      generalize hTk : lim (wmod (2 * r + bit)) k = tk at *
      generalize hBk : lim b k = bk at *
      generalize hck : dcA r bit k = ck at *
      generalize hsk : sbA (wmod (2 * r + bit)) b k = sk at *
      generalize hck1 : dcA r bit (k + 1) = ck1 at *
      generalize hsk1 : sbA (wmod (2 * r + bit)) b (k + 1) = sk1 at *
      have HT := Lib.hid hTk
      have HBK := Lib.hid hBk
      have HC1 := Lib.hid hck1
      have HS1 := Lib.hid hsk1
      clear hRk hTk hBk hck hsk hck1 hsk1 cR cB
      go_wp2
      refine wp_region_quietR (C := Grows wr) (by kernel_rfl) (by kernel_rfl) (grows_refl wr) ?_
      repeat (go_big_quiet_step (fail))
      refine wpQuiet_nil ?_
      rintro _ ⟨x, rfl⟩
      have aR := HAR.out.later' x.below
      have aB := HAB.out.later' x.below
      have G := grown_ext HG.out x.below
      clear r1 HAR HAB HG
      generalize x.w = w1 at *
      have fR := aR.frozen k
      have cR := aR.cell HK.out
      rw [if_neg (by omega)] at cR
      have HAR := Lib.hid aR
      have HAB := Lib.hid aB
      have HG := Lib.hid G
      have r1 : ∀ x : Ext w1, x.w.cell? ⟨br, k, none⟩ = some (.int .u64 (lim r k)) := fun x => (x.cell (p := ⟨br, k, none⟩) HAR.out.lt).trans cR
      have f1 : ∀ x : Ext w1, x.w.frozen? ⟨br, k, none⟩ = false := fun x => (x.frozen (p := ⟨br, k, none⟩) HAR.out.lt).trans fR
      clear aR aB G fR cR
      go_wp2
      refine wp_region_mix (C := Grows w1) [some true, some true, some true, some true, some true, some true, some true, some true, some false, some true, some true, none, none] hmx (by kernel_rfl) (by kernel_rfl) (grows_refl w1) ?_
      simp only [headOf, tailOf]
      repeat (go_big_quiet_step (fail))
      refine wpQuiet_nil ?_
      rintro _ ⟨x, rfl⟩
      have aR := (HAR.out.later' x.below).set HK.out tk
      have aB := (HAB.out.later' x.below).other (p := ⟨br, k, none⟩) hne.symm (.int .u64 tk)
      have G := grown_set (grown_ext HG.out x.below) (p := ⟨br, k, none⟩) (.inl rfl) (.int .u64 tk)
      clear HAR HAB HG A1
      go_wp2
      rw [calmPost_normal]
      clear f1 r1
      obtain ⟨w2, hw2⟩ : ∃ w2, x.w.setCell ⟨br, k, none⟩ (.int .u64 tk) = w2 := ⟨_, rfl⟩
      rw [hw2] at aR aB G ⊢
      clear hw2
      have cR := aR.cell HK.out
      rw [if_pos rfl] at cR
      have cB := aB.cell HK.out
      rw [HBK.out] at cB
      have HAR := Lib.hid aR
      have HAB := Lib.hid aB
      have HG := Lib.hid G
      have r1 : ∀ x : Ext w2, x.w.cell? ⟨br, k, none⟩ = some (.int .u64 tk) := fun x => (x.cell (p := ⟨br, k, none⟩) HAR.out.lt).trans cR
      have r2 : ∀ x : Ext w2, x.w.cell? ⟨bb, k, none⟩ = some (.int .u64 bk) := fun x => (x.cell (p := ⟨bb, k, none⟩) HAB.out.lt).trans cB
      clear aR aB G cR cB
      go_wp2
      refine wp_region_quietR (C := Grows w2) (by kernel_rfl) (by kernel_rfl) (grows_refl w2) ?_
      repeat (go_big_quiet_step (fail))
      refine wpQuiet_nil ?_
      rintro _ ⟨x, rfl⟩
      have N1 := Lib.hid (HAR.out.later' x.below)
      have N2 := Lib.hid (grown_ext HG.out x.below)
      go_wp2
      go_roundw
      case rel =>
        refine ⟨k + 1, HK.out, by simp, by rw [HC1.out], by rw [HS1.out], ?_, N2.out⟩
        have e : (fun j => if j < k + 1 then lim (wmod (2 * r + bit)) j else lim r j) = (fun j => if j = k then tk else if j < k then lim (wmod (2 * r + bit)) j else lim r j) := by
          funext j
          by_cases h1 : j = k
          · rw [if_pos h1, if_pos (by omega), h1, HT.out]
          · rw [if_neg h1]
            by_cases h2 : j < k
            · rw [if_pos h2, if_pos (by omega)]
            · rw [if_neg h2, if_neg (by omega)]
        rw [e]
        exact N1.out
      case measure => have := HK.out; simp [intOf]; omega
    · obtain rfl : k = 4 := by omega
      have aR := aR.same4 (m' := lim (wmod (2 * r + bit))) rfl rfl rfl rfl
      have HG := Lib.hid G
      have HAR := Lib.hid aR
      have HAB := Lib.hid aB
      have hd4 := HDB.out 4
      have hs4 := HSB.out 4
      unfold Bit at hd4 hs4
      obtain ⟨hd0, hd1⟩ := hd4
      obtain ⟨hs0, hs1⟩ := hs4
      clear hk hlt aR aB G
      by_cases hle : b ≤ 2 * r + bit
      · obtain ⟨q1, q2⟩ := HLONG.out hle
        have HQ := Lib.hid q1
        have HLE := Lib.hid hle
        generalize dcA r bit 4 = c4 at *
        generalize sbA (wmod (2 * r + bit)) b 4 = s4 at *
        clear q1 hle
        obtain ⟨wo, rfl⟩ : ∃ wo : World, wo = wr := ⟨_, rfl⟩
        go_wp2
        go_loopw [8, 52] (fun sh q wr => ∃ k : Nat, k ≤ 4 ∧ q = .int .i64 (k : Int) ∧ sh = .int .u64 (sbA (wmod (2 * r + bit)) b k) ∧ Arr4 wr br 24 (fun j => if j < k then lim (bdR r b bit) j else lim (wmod (2 * r + bit)) j) ∧ Arr4 wr bb 24 (lim b) ∧ w.grownBy wr (some br)) (fun _ q _ => 4 - (intOf q).toNat)
        case atStart => exact ⟨0, by omega, rfl, rfl, HAR.out.same4 rfl rfl rfl rfl, HAB.out, HG.out⟩
        case round =>
          clear HAR HAB HG
          obtain ⟨k, hk, rfl, rfl, aR, aB, G⟩ := hrel
          by_cases hlt : k < 4
          · have hkI : (k : Int) < 4 := by omega
            have hk0 : (0 : Int) ≤ (k : Int) := by omega
            have cR := aR.cell hlt
            rw [if_neg (by omega)] at cR
            have cB := aB.cell hlt
            have fR := aR.frozen k
            have hs := HSB.out k
            have uB := lim_u64 b k
            have uT := lim_u64 (wmod (2 * r + bit)) k
            have hsl := HSUB.out k hlt
            rw [HQ.out] at hsl
            have e1 : (lim (wmod (2 * r + bit)) k - lim b k - sbA (wmod (2 * r + bit)) b k) % 18446744073709551616 = lim (bdR r b bit) k := hsl
            have e3 : (if lim (wmod (2 * r + bit)) k < lim b k + sbA (wmod (2 * r + bit)) b k then (1 : Int) else 0) = sbA (wmod (2 * r + bit)) b (k + 1) := rfl
            have S1 : ∀ W, (callFunc 61 #[.int .u64 (lim (wmod (2 * r + bit)) k), .int .u64 (lim b k), .int .u64 (sbA (wmod (2 * r + bit)) b k)]).run Try.prog W = .ok (.value (.tuple #[.int .u64 (lim (bdR r b bit) k), .int .u64 (sbA (wmod (2 * r + bit)) b (k + 1))])) W := fun W => by
              have h := run_subc (lim (wmod (2 * r + bit)) k) (lim b k) (sbA (wmod (2 * r + bit)) b k) uT uB hs W
              rwa [e1, e3] at h
            have HK := Lib.hid hlt
            have HAR := Lib.hid aR
            have HAB := Lib.hid aB
            have HG := Lib.hid G
            have hmx : Try.prog.follows .mixedOrders = true := by kernel_rfl
            have r1 : ∀ x : Ext wr, x.w.cell? ⟨br, k, none⟩ = some (.int .u64 (lim (wmod (2 * r + bit)) k)) := fun x => (x.cell (p := ⟨br, k, none⟩) HAR.out.lt).trans cR
            clear hk hlt hs uB uT hsl e1 e3 aR aB G cR cB fR
            generalize hTk : lim (wmod (2 * r + bit)) k = tk at *
            generalize hBk : lim b k = bk at *
            generalize hsk : sbA (wmod (2 * r + bit)) b k = sk at *
            generalize hsk1 : sbA (wmod (2 * r + bit)) b (k + 1) = sk1 at *
            generalize hDk : lim (bdR r b bit) k = dk at *
            have HT := Lib.hid hTk
            have HBK := Lib.hid hBk
            have HS1 := Lib.hid hsk1
            have HD := Lib.hid hDk
            clear hTk hBk hsk hsk1 hDk
            go_wp2
            refine wp_region_quietR (C := Grows wr) (by kernel_rfl) (by kernel_rfl) (grows_refl wr) ?_
            repeat (go_big_quiet_step (fail))
            refine wpQuiet_nil ?_
            rintro _ ⟨x, rfl⟩
            have aR := HAR.out.later' x.below
            have aB := HAB.out.later' x.below
            have G := grown_ext HG.out x.below
            clear r1 HAR HAB HG
            generalize x.w = w1 at *
            have fR := aR.frozen k
            have cR := aR.cell HK.out
            rw [if_neg (by omega), HT.out] at cR
            have cB := aB.cell HK.out
            rw [HBK.out] at cB
            have HAR := Lib.hid aR
            have HAB := Lib.hid aB
            have HG := Lib.hid G
            have r1 : ∀ x : Ext w1, x.w.cell? ⟨br, k, none⟩ = some (.int .u64 tk) := fun x => (x.cell (p := ⟨br, k, none⟩) HAR.out.lt).trans cR
            have f1 : ∀ x : Ext w1, x.w.frozen? ⟨br, k, none⟩ = false := fun x => (x.frozen (p := ⟨br, k, none⟩) HAR.out.lt).trans fR
            have r2 : ∀ x : Ext w1, x.w.cell? ⟨bb, k, none⟩ = some (.int .u64 bk) := fun x => (x.cell (p := ⟨bb, k, none⟩) HAB.out.lt).trans cB
            clear aR aB G fR cR cB
            go_wp2
            refine wp_region_mix (C := Grows w1) [some true, some true, some true, some true, some true, some true, some true, some true, some true, some true, some true, some true, some false, some true, some true, none, none] hmx (by kernel_rfl) (by kernel_rfl) (grows_refl w1) ?_
            simp only [headOf, tailOf]
            repeat (go_big_quiet_step (fail))
            refine wpQuiet_nil ?_
            rintro _ ⟨x, rfl⟩
            have N1 := Lib.hid ((HAR.out.later' x.below).set HK.out dk)
            have N2 := Lib.hid ((HAB.out.later' x.below).other (p := ⟨br, k, none⟩) hne.symm (.int .u64 dk))
            have N3 := Lib.hid (grown_set (grown_ext HG.out x.below) (p := ⟨br, k, none⟩) (.inl rfl) (.int .u64 dk))
            clear r2 HAR HAB HG
            go_wp2
            rw [calmPost_normal]
            clear f1 r1
            go_wp2
            go_roundw
            case rel =>
              refine ⟨k + 1, HK.out, by simp, by rw [HS1.out], ?_, N2.out, N3.out⟩
              have e : (fun j => if j < k + 1 then lim (bdR r b bit) j else lim (wmod (2 * r + bit)) j) = (fun j => if j = k then dk else if j < k then lim (bdR r b bit) j else lim (wmod (2 * r + bit)) j) := by
                funext j
                by_cases h1 : j = k
                · rw [if_pos h1, if_pos (by omega), h1, HD.out]
                · rw [if_neg h1]
                  by_cases h2 : j < k
                  · rw [if_pos h2, if_pos (by omega)]
                  · rw [if_neg h2, if_neg (by omega)]
              rw [e]
              exact N1.out
            case measure => have := HK.out; simp [intOf]; omega
          · obtain rfl : k = 4 := by omega
            have N1 := Lib.hid (aR.same4 (m' := lim (bdR r b bit)) rfl rfl rfl rfl)
            have N2 := Lib.hid G
            clear hk hlt aR aB G
            go_wp2
            go_ret
            exact ⟨by rw [decide_eq_true HLE.out]; rfl, N1.out, N2.out⟩
      · obtain ⟨q1, q2⟩ := HSHORT.out hle
        have HQ := Lib.hid q1
        have HLE := Lib.hid hle
        generalize dcA r bit 4 = c4 at *
        generalize sbA (wmod (2 * r + bit)) b 4 = s4 at *
        clear q1 hle
        go_wp2
        go_ret
        exact ⟨by rw [decide_eq_false HLE.out]; rfl, by rw [← HQ.out]; exact HAR.out, HG.out⟩
end Go.Proofs.Ytnlcllhjhbaigaa
