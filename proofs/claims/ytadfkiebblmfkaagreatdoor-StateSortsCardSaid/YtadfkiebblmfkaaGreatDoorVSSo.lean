import Derived.Test.YtadfkiebblmfkaaGreatDoorVSSm
import Derived.Test.YtadfkiebblmfkaaGreatDoorS07
/- StateSorts. Conditions: the table of the rounds' numbers lies in memory; so do the raw numbers. -/
namespace Go.Proofs.YtadfkiebblmfkaaGreatDoor
open Go Go.RowKit
attribute [local go_sem] Oper.semAt_some Grows wide_fn

theorem adC_aS (k : Nat) (h : k < 256) : adC (aS k) = #[.int .u8 (k : Int), .int .u8 0, .int .u8 0, .int .u8 0, .int .u8 0, .int .u8 0, .int .u8 0, .int .u8 0, .int .u8 0, .int .u8 0, .int .u8 0, .int .u8 0, .int .u8 0, .int .u8 0, .int .u8 0, .int .u8 0, .int .u8 0, .int .u8 0, .int .u8 0, .int .u8 0] := by
  unfold adC adL
  rw [show List.range 20 = [0, 1, 2, 3, 4, 5, 6, 7, 8, 9, 10, 11, 12, 13, 14, 15, 16, 17, 18, 19] from rfl]
  simp only [List.map_cons, List.map_nil]
  have e0 : adB (aS k) 0 = k := by unfold adB aS; omega
  have e1 : adB (aS k) 1 = 0 := by unfold adB aS; omega
  have e2 : adB (aS k) 2 = 0 := by unfold adB aS; omega
  have e3 : adB (aS k) 3 = 0 := by unfold adB aS; omega
  have e4 : adB (aS k) 4 = 0 := by unfold adB aS; omega
  have e5 : adB (aS k) 5 = 0 := by unfold adB aS; omega
  have e6 : adB (aS k) 6 = 0 := by unfold adB aS; omega
  have e7 : adB (aS k) 7 = 0 := by unfold adB aS; omega
  have e8 : adB (aS k) 8 = 0 := by unfold adB aS; omega
  have e9 : adB (aS k) 9 = 0 := by unfold adB aS; omega
  have e10 : adB (aS k) 10 = 0 := by unfold adB aS; omega
  have e11 : adB (aS k) 11 = 0 := by unfold adB aS; omega
  have e12 : adB (aS k) 12 = 0 := by unfold adB aS; omega
  have e13 : adB (aS k) 13 = 0 := by unfold adB aS; omega
  have e14 : adB (aS k) 14 = 0 := by unfold adB aS; omega
  have e15 : adB (aS k) 15 = 0 := by unfold adB aS; omega
  have e16 : adB (aS k) 16 = 0 := by unfold adB aS; omega
  have e17 : adB (aS k) 17 = 0 := by unfold adB aS; omega
  have e18 : adB (aS k) 18 = 0 := by unfold adB aS; omega
  have e19 : adB (aS k) 19 = 0 := by unfold adB aS; omega
  rw [e0, e1, e2, e3, e4, e5, e6, e7, e8, e9, e10, e11, e12, e13, e14, e15, e16, e17, e18, e19]
  rfl
theorem acS_cells (k v : Nat) (h : k < 256) : acC (acS k v) (.slice none 0 0) = #[.int .u8 (k : Int), .int .u8 0, .int .u8 0, .int .u8 0, .int .u8 0, .int .u8 0, .int .u8 0, .int .u8 0, .int .u8 0, .int .u8 0, .int .u8 0, .int .u8 0, .int .u8 0, .int .u8 0, .int .u8 0, .int .u8 0, .int .u8 0, .int .u8 0, .int .u8 0, .int .u8 0, .int .u64 0, .int .u64 0, .int .u64 0, .int .u64 0, .int .i64 (v : Int), .string { data := #[] }, .slice none 0 0] := by
  unfold acS acC acL
  rw [show adL (aS k) = (#[.int .u8 (k : Int), .int .u8 0, .int .u8 0, .int .u8 0, .int .u8 0, .int .u8 0, .int .u8 0, .int .u8 0, .int .u8 0, .int .u8 0, .int .u8 0, .int .u8 0, .int .u8 0, .int .u8 0, .int .u8 0, .int .u8 0, .int .u8 0, .int .u8 0, .int .u8 0, .int .u8 0] : Array Value).toList from congrArg Array.toList (adC_aS k h)]
  dsimp only
  simp only [lim_zero]
  rfl
theorem acS_first (k v : Nat) (sv : Value) (h : k < 256) : (acL (acS k v) sv)[0]? = some (.int .u8 (k : Int)) := by
  rw [acL_at _ _ _ (by decide)]
  rw [show adB (acS k v).at_ 0 = k from by show adB (aS k) 0 = k; unfold adB aS; omega]
theorem StK.nil (w : World) : StK w (.slice none 0 0) [] := ⟨0, [], rfl, RowA.nil _ _, fun p hp => by cases hp⟩
theorem StK.only {w w' : World} {v : Value} {l : List Ac} (h : StK w v l) {B : Nat} {t : TypeId} {cs : Array Value} (ho : OnlyB w w' B) (hB : Has w B t cs) (ht : t ≠ 31 ∧ t ≠ 67) : StK w' v l := by
  obtain ⟨lo, ps, h1, h2, h3⟩ := h
  refine ⟨lo, ps, h1, h2.keep fun b c _ hb => (ho.2.2 b (fun e => by
    subst e
    have := hB.symm.trans hb
    injection this with this
    injection this with _ this _
    exact absurd this ht.1)).trans hb, fun p hp => ⟨(h3 p hp).1, (h3 p hp).2.1.keep fun b c _ hb => (ho.2.2 b (fun e => by
    subst e
    have := hB.symm.trans hb
    injection this with this
    injection this with _ this _
    exact absurd this ht.2)).trans hb, (h3 p hp).2.2⟩⟩
set_option maxRecDepth 100000 in
set_option maxHeartbeats 8000000 in
theorem sorts_any (W : World) (hT : Tab W) (rv : Value) (zs : List (Int × Int)) (hr : RawAt W rv zs) :
    Calls Tryz.prog 7 #[rv] W fun e w' => e = .returned (.bool true) ∧ Below W.heap.size W w' := by
  have HAW := Lib.hid (awake_any W hT)
  have HR := Lib.hid hr
  obtain ⟨ra, rc, rfl, hrn, hrc, _⟩ := hr
  obtain ⟨n, hn⟩ : ∃ n, zs.length = n := ⟨_, rfl⟩
  rw [hn] at HR hrn ⊢
  have HN := Lib.hid hn
  have HCAP := Lib.hid (Nat.le_trans hrn hrc)
  clear hT hrn hrc hn
  go_enter Tryz.func7, Tryz.ntmps7
  go_wp2_with fail
  refine HAW.out.mono ?_
  rintro _ w1 ⟨rfl, q1⟩
  have Q1 := Lib.hid q1
  have h2 := Has.new w1 62 (hadC fun _ => 0)
  have q2 := (Below.refl w1.heap.size w1).alloc (Nat.le_refl _) (.cells (hadC fun _ => 0) 62)
  clear q1 HAW
  go_wp2_with fail
  rw [show Tryz.zeroCells62 = hadC fun _ => 0 from by rw [hadC_zero]; rfl]
  obtain ⟨w2, hw2⟩ : ∃ w2, w1.alloc (.cells (hadC fun _ => 0) 62) = w2 := ⟨_, rfl⟩
  rw [hw2] at h2 q2 ⊢
  have Q2 := Lib.hid (Q1.out.trans (q2.mono Q1.out.size))
  have HW1 := Lib.hid (show W.heap.size ≤ w1.heap.size from Q1.out.size)
  have H2 := Lib.hid h2
  clear hw2 h2 q2
  go_loopw [6, 4] (fun i s wr => ∃ (m : Nat) (nv : Nat → Nat), m ≤ n ∧ m ≤ 30 ∧ i = .int .i64 (m : Int) ∧ (∀ k, nv k < 3) ∧ (sL nv).length ≤ m ∧ StK wr s (sL nv) ∧ Has wr w1.heap.size 62 (hadC nv) ∧ Below W.heap.size W wr) (fun i _ _ => n - (intOf i).toNat)
  case atStart => exact ⟨0, fun _ => 0, by omega, by omega, rfl, fun _ => (show (0 : Nat) < 3 by decide), by rw [sL_zero]; simp, by rw [sL_zero]; exact StK.nil _, H2.out, Q2.out⟩
  case round =>
    obtain ⟨m, nv, hmn, hm30, rfl, hnv, hlen, hst, hhad, hq⟩ := hrel
    have HNV := Lib.hid (And.intro hnv hlen)
    have HST := Lib.hid hst
    have HHAD := Lib.hid hhad
    have HQ := Lib.hid hq
    have HM := Lib.hid (And.intro hmn hm30)
    have hm0 : (0 : Int) ≤ (m : Int) := by omega
    have hmb : (m : Int) ≤ 30 := by omega
    clear hnv hlen hst hhad hq hmn hm30
    obtain ⟨as0, cs0, hsh⟩ := HST.out.shape
    replace hsh := Lib.hid hsh
    by_cases hin : m < n ∧ m < 30
    · have hmI : (m : Int) < (n : Int) := by omega
      have hmJ : (m : Int) < 30 := by omega
      obtain ⟨p, hp⟩ : ∃ p, zs[m]? = some p := ⟨_, List.getElem?_eq_getElem (by have := HN.out; omega)⟩
      obtain ⟨a', cap', e', _, _, hall⟩ := HR.out.later HQ.out
      injection e' with e1 e2 e3
      subst e1 e3
      clear e2
      obtain ⟨i1, i2, b, rfl, d0, d1⟩ := hall m p hp
      have HD := Lib.hid (fun (X : World) (hX : Below W.heap.size W X) => (show X.cell? (b.add (m * 2)) = some (.int .i64 p.1) ∧ X.cell? ⟨(b.add (m * 2)).block, (b.add (m * 2)).off + 1, none⟩ = some (.int .i64 p.2) from by
        obtain ⟨_, _, e', _, _, hall'⟩ := HR.out.later hX
        injection e' with e1 _ _
        subst e1
        obtain ⟨_, _, b', e'', h1, h2⟩ := hall' m p hp
        injection e'' with e''
        subst e''
        exact ⟨h1, h2⟩))
      have P1 := Lib.hid (pick8_ret p.1 i1 256 (by decide) (by decide))
      have P2 := Lib.hid (pick8_ret p.2 i2 3 (by decide) (by decide))
      obtain ⟨k, hk, ek⟩ : ∃ k : Nat, k < 256 ∧ pickN p.1 256 = (k : Int) := by
        have := pickN_range p.1 256 (by decide)
        exact ⟨(pickN p.1 256).toNat, by omega, by omega⟩
      obtain ⟨v, hv, ev⟩ : ∃ v : Nat, v < 3 ∧ pickN p.2 3 = (v : Int) := by
        have := pickN_range p.2 3 (by decide)
        exact ⟨(pickN p.2 3).toNat, by omega, by omega⟩
      rw [ek] at P1
      rw [ev] at P2
      have hl0 := (HD.out wr HQ.out).1
      generalize p.1 = p1 at *
      generalize p.2 = p2 at *
      have HIN := Lib.hid hin
      clear hall hp i1 i2 d0 d1 ek ev hin
      go_wp2_with fail
      refine (P1.out wr).mono ?_
      rintro _ w3 ⟨rfl, q3⟩
      have R3 := Lib.hid q3
      have Q3 := Lib.hid (HQ.out.trans (q3.mono HQ.out.size))
      have hl1 := (HD.out w3 Q3.out).2
      have hk8 : (k : Int) % 256 = (k : Int) := by omega
      have hk0 : (0 : Int) ≤ (k : Int) := by omega
      have hkb : (k : Int) ≤ 255 := by omega
      have hv0 : (0 : Int) ≤ (v : Int) := by omega
      have hvb : (v : Int) ≤ 2 := by omega
      have HKV := Lib.hid (And.intro hk hv)
      clear q3 P1 hl0 hk hv
      go_wp2_with fail
      refine (P2.out w3).mono ?_
      rintro _ w4 ⟨rfl, q4⟩
      have R4 := Lib.hid (R3.out.trans (q4.mono R3.out.size))
      clear q4 P2 hl1
      have h5 := Has.new w4 31 #[.int .u8 0, .int .u8 0, .int .u8 0, .int .u8 0, .int .u8 0, .int .u8 0, .int .u8 0, .int .u8 0, .int .u8 0, .int .u8 0, .int .u8 0, .int .u8 0, .int .u8 0, .int .u8 0, .int .u8 0, .int .u8 0, .int .u8 0, .int .u8 0, .int .u8 0, .int .u8 0, .int .u64 0, .int .u64 0, .int .u64 0, .int .u64 0, .int .i64 0, .string { data := #[] }, .slice none 0 0]
      have q5 := (Below.refl w4.heap.size w4).alloc (Nat.le_refl _) (.cells #[.int .u8 0, .int .u8 0, .int .u8 0, .int .u8 0, .int .u8 0, .int .u8 0, .int .u8 0, .int .u8 0, .int .u8 0, .int .u8 0, .int .u8 0, .int .u8 0, .int .u8 0, .int .u8 0, .int .u8 0, .int .u8 0, .int .u8 0, .int .u8 0, .int .u8 0, .int .u8 0, .int .u64 0, .int .u64 0, .int .u64 0, .int .u64 0, .int .i64 0, .string { data := #[] }, .slice none 0 0] 31)
      obtain ⟨w5a, hWa⟩ : ∃ X, w4.alloc (.cells #[.int .u8 0, .int .u8 0, .int .u8 0, .int .u8 0, .int .u8 0, .int .u8 0, .int .u8 0, .int .u8 0, .int .u8 0, .int .u8 0, .int .u8 0, .int .u8 0, .int .u8 0, .int .u8 0, .int .u8 0, .int .u8 0, .int .u8 0, .int .u8 0, .int .u8 0, .int .u8 0, .int .u64 0, .int .u64 0, .int .u64 0, .int .u64 0, .int .i64 0, .string { data := #[] }, .slice none 0 0] 31) = X := ⟨_, rfl⟩
      rw [hWa] at h5 q5
      have hi5 := accRow (acS k v) (.slice none 0 0) rfl
      rw [acS_cells k v HKV.out.1] at hi5
      obtain ⟨w5, hWb⟩ : ∃ X, w5a.setRow w4.heap.size #[.int .u8 (k : Int), .int .u8 0, .int .u8 0, .int .u8 0, .int .u8 0, .int .u8 0, .int .u8 0, .int .u8 0, .int .u8 0, .int .u8 0, .int .u8 0, .int .u8 0, .int .u8 0, .int .u8 0, .int .u8 0, .int .u8 0, .int .u8 0, .int .u8 0, .int .u8 0, .int .u8 0, .int .u64 0, .int .u64 0, .int .u64 0, .int .u64 0, .int .i64 (v : Int), .string { data := #[] }, .slice none 0 0] = X := ⟨_, rfl⟩
      have h6 : Has w5 w4.heap.size 31 (acC (acS k v) (.slice none 0 0)) := by rw [← hWb, acS_cells k v HKV.out.1]; exact setRow_heap _ _ _ _ _ _ h5
      have q6 : Below w4.heap.size w4 w5 := by rw [← hWb]; exact below_rowAc q5 (g := w4.heap.size) (Nat.le_refl _) _
      have hl6 := h6.accLoad
      rw [acS_cells k v HKV.out.1] at hl6
      have H6 := Lib.hid h6
      have R5 := Lib.hid (R4.out.trans (q6.mono R4.out.size))
      have HSE := set_any w5 u4 (sL nv) (HST.out.later R5.out).st (by have := HNV.out.2; omega) (sL_slots nv) (acS k v) (.slice none 0 0) (acS_ok HKV.out.1 HKV.out.2) (SlotsAt.nil _) (Nat.zero_le _)
      rw [set_sL nv HNV.out.1 (by have := HNV.out.2; omega) HKV.out.1 HKV.out.2, putA_sL nv HKV.out.1 v, acS_cells k v HKV.out.1] at HSE
      have HSE := Lib.hid HSE
      clear q5 h6 q6
      go_wp2_with (first | (refine wpList_load_known rfl _ (.tmp 8) rfl _ rfl _ hl6 ?_) | (refine wpList_store_row rfl _ (.tmp 8) (.tmp 39) rfl _ _ rfl rfl _ _ h5 hi5.1 hi5.2.1 hi5.2.2 ?_; rw [hWb]))
      refine HSE.out.mono ?_
      rintro _ w7 ⟨v7, rfl, hk7, q7⟩
      have HK7 := Lib.hid (hk7 (by first | rfl | trivial))
      have R7 := Lib.hid (R5.out.trans (q7.mono R5.out.size))
      have x24 := (H6.out.later q7).acc.2.2.2.2.1
      clear HSE hk7 q7 hl6 h5 hi5 hWa hWb
      have hh7 := HHAD.out.later R7.out
      have c7 := hh7.cell k _ (hadC_at nv HKV.out.1)
      have f7 := hh7.frozen k
      have hon := (OnlyB.refl w7 w1.heap.size).setCell k (.bool (decide (0 < v)))
      have H8 := Lib.hid (show Has (w7.setCell ⟨w1.heap.size, k, none⟩ (.bool (decide (0 < v)))) w1.heap.size 62 (hadC (updN nv k v)) by
        have := hh7.set k (.bool (decide (0 < v)))
        rwa [hadC_set nv HKV.out.1] at this)
      have K8 := Lib.hid (HK7.out.only hon hh7 (by decide))
      have Q8 := Lib.hid ((HQ.out.trans (R7.out.mono HQ.out.size)).trans (hon.1.mono HW1.out))
      have hvd : decide (0 < v) = decide ((0 : Int) < (v : Int)) := by rw [Bool.eq_iff_iff, decide_eq_true_eq, decide_eq_true_eq]; omega
      rw [hvd] at H8 K8 Q8
      clear hh7 hon hvd
      go_wp2_with fail
      go_roundw
      case rel => exact ⟨m + 1, updN nv k v, by have := HIN.out; omega, by have := HIN.out; omega, by simp, fun j => by
        unfold updN
        split
        · exact HKV.out.2
        · exact HNV.out.1 j, by
        have := putA_le (sL nv) (acS k v)
        rw [putA_sL nv HKV.out.1 v] at this
        have := HNV.out.2
        omega, K8.out, H8.out, Q8.out⟩
      case measure => have := HIN.out; simp [intOf]; omega
    · have hL := Lib.hid (show (sL nv).length ≤ 30 by have := HNV.out.2; have := HM.out; omega)
      have hex : ¬ (m : Int) < (n : Int) ∨ (m : Int) < (n : Int) ∧ ¬ (m : Int) < 30 := by have := HM.out; omega
      clear hin
      have HSTA := Lib.hid HST.out.st
      have HTAB := Lib.hid (fun (X : World) (hX : Below wr.heap.size wr X) => HHAD.out.later hX)
      generalize hLn : (sL nv).length = L at *
      have HLn := Lib.hid hLn
      have hLI : (L : Int) ≤ 30 := by have := hL.out; omega
      have hL0 : (0 : Int) ≤ (L : Int) := by omega
      clear hLn
      replace hsh := hsh.out
      subst hsh
      generalize wr = wA at *
      rcases hex with hex | ⟨hex1, hex2⟩
      all_goals
        go_wp2_with fail
        go_loopw [11, 12] (fun at_ j wx => ∃ jn : Nat, jn ≤ 256 ∧ j = .int .i64 (jn : Int) ∧ at_ = .int .i64 (((partS nv 0 jn).length : Nat) : Int) ∧ Below wA.heap.size wA wx) (fun _ j _ => 256 - (intOf j).toNat)
        case atStart => exact ⟨0, by omega, rfl, rfl, Below.refl _ _⟩
        case round =>
          obtain ⟨jn, hj, rfl, rfl, hqx⟩ := hrel
          have QX := Lib.hid hqx
          have HJ := Lib.hid hj
          have hj0 : (0 : Int) ≤ (jn : Int) := by omega
          have hjb : (jn : Int) ≤ 256 := by omega
          have QW := Lib.hid (HQ.out.trans (hqx.mono HQ.out.size))
          have hpl : (((partS nv 0 jn).length : Nat) : Int) ≤ (L : Int) := by have := part_le nv hj; have := HLn.out; omega
          have hp0 : (0 : Int) ≤ (((partS nv 0 jn).length : Nat) : Int) := by omega
          by_cases hj256 : jn < 256
          · have hjI : (jn : Int) < 256 := by omega
            have hh := HTAB.out wr QX.out
            have cj := hh.cell jn _ (hadC_at nv hj256)
            have HPS := Lib.hid (part_succ nv jn)
            have H256 := Lib.hid hj256
            by_cases h0 : nv jn = 0
            · rw [h0, decide_eq_false (by decide)] at cj
              have H0 := Lib.hid h0
              generalize hpt : (partS nv 0 jn).length = at_ at *
              replace hpt := Lib.hid hpt
              clear h0 hh hqx hj hj256
              go_wp2_with fail
              go_roundw
              case rel => exact ⟨jn + 1, by have := H256.out; omega, by simp, by rw [HPS.out, H0.out]; simp, QX.out⟩
              case measure => have := H256.out; simp [intOf]; omega
            · rw [decide_eq_true (show 0 < nv jn by omega)] at cj
              have hat := sL_at nv hj256 h0
              obtain ⟨b, sx, hb, ax⟩ := (HSTA.out.later QX.out).at hat
              have hlt := (List.getElem?_eq_some_iff.1 hat).1
              have ca := ax.cells 0 _ (acS_first jn (nv jn) sx hj256)
              rw [Addr.add_add, Nat.add_zero] at ca
              have H0 := Lib.hid h0
              have hlI : (((partS nv 0 jn).length : Nat) : Int) < (L : Int) := by have := HLn.out; omega
              have hj8 : (jn : Int) % 256 = (jn : Int) := by omega
              generalize hpt : (partS nv 0 jn).length = at_ at *
              replace hpt := Lib.hid hpt
              subst hb
              clear h0 hh hqx hj hj256 hat ax hlt
              go_wp2_with fail
              go_roundw
              case rel => exact ⟨jn + 1, by have := H256.out; omega, by simp, by rw [HPS.out, if_neg H0.out]; simp, QX.out⟩
              case measure => have := H256.out; simp [intOf]; omega
          · obtain rfl : jn = 256 := by omega
            have hjj : ¬ ((256 : Nat) : Int) < 256 := by decide
            have hpe : (partS nv 0 256).length = L := HLn.out
            rw [hpe]
            have HRI := right_st wr (.slice as0 L cs0) (sL nv) (HSTA.out.later QX.out)
            rw [sL_right nv HNV.out.1 (by have := HLn.out; have := hL.out; omega)] at HRI
            have HRI := Lib.hid HRI
            clear hpe hpl hp0 hqx hj hj256
            go_wp2_with fail
            refine HRI.out.mono ?_
            rintro _ w9 ⟨rfl, q9⟩
            have Q9 := Lib.hid (QW.out.trans (q9.mono QW.out.size))
            clear q9 HRI
            go_wp2_with fail
            go_ret
            exact ⟨rfl, Q9.out⟩
end Go.Proofs.YtadfkiebblmfkaaGreatDoor
