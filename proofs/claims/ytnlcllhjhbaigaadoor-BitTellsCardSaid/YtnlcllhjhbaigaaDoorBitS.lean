/- The iterator over a word's bits, told by the number of rounds. -/
import Derived.Test.YtnlcllhjhbaigaaDoorBitZ
import Derived.Test.YtnlcllhjhbaigaaDoorPartsN
import Derived.Test.YtnlcllhjhbaigaaDoorGrown
namespace Go.Proofs.YtnlcllhjhbaigaaDoor
open Go Go.RowKit Go.Shelf
attribute [local go_sem] Oper.semAt_some wide_fn Grows

theorem drop_cons {L : List Nat} {k x : Nat} {r : List Nat} (h : L.drop k = x :: r) : k < L.length ∧ L.getD k 0 = x ∧ L.drop (k + 1) = r := by
  have hk : k < L.length := by
    rcases Nat.lt_or_ge k L.length with h' | h'
    · exact h'
    · rw [List.drop_eq_nil_of_le h'] at h; cases h
  rw [List.drop_eq_getElem_cons hk] at h
  injection h with h1 h2
  exact ⟨hk, by rw [List.getD_eq_getElem?_getD, List.getElem?_eq_getElem hk]; exact h1, h2⟩

theorem KeepsAt.lt {L : List Nat} {W W' : World} (h : KeepsAt L W W') {b : Nat} (hb : b ∈ L) (hl : b < W.heap.size) : b < W'.heap.size := by
  have := h b hb
  rw [Array.getElem?_eq_getElem hl] at this
  exact (Array.getElem?_eq_some_iff.1 this).1

set_option maxRecDepth 100000 in
set_option maxHeartbeats 4000000 in
theorem ones_seq (n : Nat) (hn : 1 ≤ n) (Bs b : Nat) (a : Nat) (w : World) (hBs : Bs < w.heap.size) (hb : b < w.heap.size) (hT : Tab w)
    (hcB : w.cell? ⟨Bs, 0, none⟩ = some (.pointer (some ⟨b, 0, none⟩))) (hc : ∀ j, j < 4 → w.cell? ⟨b, j, none⟩ = some (.int .u64 (lim a j))) :
    SeqN Fence.wide n Tryd.prog 63 #[.pointer (some ⟨Bs, 0, none⟩)] (fun k => #[.int .i64 (((allOnes a).getD k 0 : Nat) : Int)]) (KeepsAt [b, Bs, 0]) (allOnes a).length w := by
  intro l J Jx W hW hJA _ hY h0
  have hBs' := (hW.cell (p := ⟨Bs, 0, none⟩) hBs).trans hcB
  have hc' : ∀ j, j < 4 → W.cell? ⟨b, j, none⟩ = some (.int .u64 (lim a j)) := fun j hj => (hW.cell (p := ⟨b, j, none⟩) hb).trans (hc j hj)
  have hT' : Tab W := hT.later hW
  have hbW : b < W.heap.size := Nat.lt_of_lt_of_le hb hW.size
  have hBW : Bs < W.heap.size := Nat.lt_of_lt_of_le hBs hW.size
  clear hcB hc hT hW
  have HL := Lib.hid hc'
  have HT := Lib.hid hT'
  have HA := Lib.hid hJA
  have HY := Lib.hid hY
  clear hc' hT' hJA hY
  have hmx : Tryd.prog.follows .mixedOrders = true := by kernel_rfl
  refine callsIn_of_wp Tryd.func63 rfl trivial ?_ rfl
  simp only [Tryd.ntmps63, List.size_toArray, List.length_cons, List.length_nil, Nat.reduceAdd, Nat.reduceSub, Array.replicate_succ, Array.replicate_zero, List.push_toArray, List.append_toArray, List.nil_append, List.cons_append]
  gi_wp2
  gi_loopw [6] (fun i wr => ∃ k q : Nat, i = .int .i64 (q : Int) ∧ q ≤ 4 ∧ Hid (k ≤ (allOnes a).length ∧ (allOnes a).drop k = restF a (4 - q) q ∧ J k wr ∧ KeepsAt [b, Bs, 0] W wr))
    (fun i _ => 4 - (intOf i).toNat)
  case atStart => exact ⟨0, 0, rfl, by omega, ⟨Nat.zero_le _, rfl, h0, KeepsAt.refl _ _⟩⟩
  case round =>
    obtain ⟨k, q, rfl, hq4, hH⟩ := hrel
    by_cases hlt : q < 4
    · have hqI : (q : Int) < 4 := by omega
      have hq0 : (0 : Int) ≤ (q : Int) := by omega
      obtain ⟨hk, hd, hJs, hnx⟩ := hH.out
      have kc : ∀ x : Ext wr, x.w.cell? ⟨b, q, none⟩ = some (.int .u64 (lim a q)) := fun x => (x.cell (p := ⟨b, q, none⟩) (hnx.lt (by simp) hbW)).trans ((hnx.cell (p := ⟨b, q, none⟩) (by simp)).trans (HL.out q hlt))
      have HD := Lib.hid hd
      have HK := Lib.hid hk
      have HJ := Lib.hid hJs
      have HN := Lib.hid hnx
      have HQ := Lib.hid hlt
      clear hH hk hd hJs hnx hlt
      gi_wp2_with fail
      refine wpIn_region_quick (C := Grows wr) free_wide hmx (by kernel_rfl) (by kernel_rfl) (grows_refl wr) ?_
      repeat (go_big_quiet_step (fail))
      refine wpQuiet_nil ?_
      rintro _ ⟨x, rfl⟩
      have HJ := Lib.hid (HA.out k wr x.w none HJ.out (grown_of_below x.below none) (fun r e => by cases e))
      have HN := Lib.hid (HN.out.below x.below (fun b' hb' => HN.out.lt hb' (by simp at hb'; have := HT.out.lt; omega)))
      generalize x.w = wx at *
      clear x
      gi_wp2_with fail
      gi_loopw [4] (fun p wr => ∃ k m : Nat, p = .int .u64 (m : Int) ∧ Hid (m < 18446744073709551616 ∧ k ≤ (allOnes a).length ∧ (allOnes a).drop k = (onesL m).map (64 * q + ·) ++ restF a (4 - (q + 1)) (q + 1) ∧ J k wr ∧ KeepsAt [b, Bs, 0] W wr))
        (fun p _ => (intOf p).toNat)
      case atStart => 
        refine ⟨k, ln a q, by rw [lim_ln a q HQ.out], ⟨ln_lt a q, HK.out, ?_, HJ.out, HN.out⟩⟩
        rw [HD.out, show 4 - q = 4 - (q + 1) + 1 by have := HQ.out; omega]
        rfl
      case round =>
        obtain ⟨k', m, rfl, hH⟩ := hrel
        clear HK HD HJ HN
        by_cases hm : m = 0
        · subst hm
          have HQ2 := Lib.hid HQ.out
          gi_wp2
          go_roundw
          case rel =>
            obtain ⟨_, hk, hd, hJs, hnx⟩ := hH.out
            rw [onesL_zero] at hd
            exact ⟨k', q + 1, by simp, HQ2.out, ⟨hk, hd, hJs, hnx⟩⟩
          case measure => have := HQ2.out; simp [intOf]; omega
        · obtain ⟨hm64, hk, hd, hJs, hnx⟩ := hH.out
          rw [onesL_succ m hm] at hd
          simp only [List.map_cons, List.cons_append] at hd
          obtain ⟨hkl, hg, hd'⟩ := drop_cons hd
          obtain ⟨fn, tmps, assign, body, hy, hR⟩ := HY.out k' wr hkl hJs
          have hv : ((((allOnes a).getD k' 0 : Nat)) : Int) = (q : Int) * 64 + (tz m : Int) := by rw [hg]; omega
          rw [hv] at hy
          have hTr : Tab wr := ⟨hnx.lt (by simp) HT.out.lt, fun i hi => (hnx.cell (p := ⟨0, i, none⟩) (by simp)).trans (HT.out.cell i hi)⟩
          have HC := Lib.hid (tz_calls m hm hm64 wr hTr)
          have hba : bits .and .u64 (m : Int) ((m : Int) - 1) = (clr m : Int) := by
            have := bits_and_u64_nat m (m - 1) hm64 (by omega)
            rw [and_pred m hm hm64] at this
            rw [← this]
            congr 1
            omega
          have hm1 : (1 : Int) ≤ (m : Int) := by omega
          have hm0 : (m : Int) ≠ 0 := by omega
          have hsub : IntKind.u64.wrap ((m : Int) - 1) = (m : Int) - 1 := by rw [IntKind.wrap_u64]; omega
          have htz : (tz m : Int) < 64 := by obtain ⟨_, _, h⟩ := tz_split m hm hm64; omega
          have HM := Lib.hid hm
          have HM6 := Lib.hid hm64
          have HK := Lib.hid hkl
          have HD := Lib.hid hd'
          have HN := Lib.hid hnx
          generalize tz m = t at *
          clear hH hd hg hd' hk hJs hnx hv hTr hm hm64 hkl
          gi_wp2_with fail
          refine (callsIn_free free_wide HC.out).mono ?_
          rintro e w' ⟨rfl, rfl⟩
          gi_wp2
          refine hR.mono ?_
          rintro e W3 (⟨rfl, hJ3, hk3⟩ | ⟨rfl, hJx3⟩)
          · gi_wp2
            go_roundw
            case rel => exact ⟨k' + 1, clr m, rfl, ⟨by have := clr_lt m HM.out; have := HM6.out; omega, HK.out, HD.out, hJ3, HN.out.trans hk3⟩⟩
            case measure => have := clr_lt m HM.out; simp [intOf]; omega
          · gi_wp2
            refine bodyPost_ret (results_none rfl _ _ _) rfl ?_
            exact ⟨⟨_, rfl⟩, .inr ⟨k', HK.out, hJx3⟩⟩
    · obtain rfl : q = 4 := by omega
      obtain ⟨hk, hd, hJs, hnx⟩ := hH.out
      have hk2 : k = (allOnes a).length := by
        have h1 : (allOnes a).drop k = [] := hd
        have := List.drop_eq_nil_iff.1 h1
        omega
      have HJ : Hid (J (allOnes a).length wr) := by rw [← hk2]; exact hJs
      clear hH hJs hk hd hk2 hnx
      gi_wp2
      go_end0
      exact ⟨⟨_, rfl⟩, .inl HJ.out⟩
end Go.Proofs.YtnlcllhjhbaigaaDoor
