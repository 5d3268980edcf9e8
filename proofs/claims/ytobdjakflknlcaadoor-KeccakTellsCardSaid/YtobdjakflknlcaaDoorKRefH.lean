/- The reference's Permute is the program's. For all lanes. -/
import Derived.Test.YtobdjakflknlcaaDoorKRefM
import Derived.Test.YtobdjakflknlcaaDoorKecG
namespace Go.Proofs.YtobdjakflknlcaaDoor
open Go Go.RowKit Go.Shelf
attribute [local go_sem] Oper.semAt_some Grows wide_fn field0

theorem zeros25 : (#[.int .u64 0, .int .u64 0, .int .u64 0, .int .u64 0, .int .u64 0, .int .u64 0, .int .u64 0, .int .u64 0, .int .u64 0, .int .u64 0, .int .u64 0, .int .u64 0, .int .u64 0, .int .u64 0, .int .u64 0, .int .u64 0, .int .u64 0, .int .u64 0, .int .u64 0, .int .u64 0, .int .u64 0, .int .u64 0, .int .u64 0, .int .u64 0, .int .u64 0] : Array Value) = luC 25 fun _ => 0 := rfl
/-- The lanes behind those to i, and the bits of the next one down to z. -/
def outK (L : Nat → Nat) (i z j : Nat) : Nat := if j < i then L j else if j = i then L i / 2 ^ z else 0
theorem outK_start (L : Nat → Nat) (hL : ∀ j, L j < 2 ^ 64) (i j : Nat) : outK L i 64 j = if j < i then L j else 0 := by
  unfold outK
  by_cases h : j < i
  · rw [if_pos h, if_pos h]
  · rw [if_neg h, if_neg h]
    split
    · exact Nat.div_eq_of_lt (hL i)
    · rfl
theorem outK_end (L : Nat → Nat) (i j : Nat) : outK L i 0 j = if j < i + 1 then L j else 0 := by
  unfold outK
  by_cases h : j < i
  · rw [if_pos h, if_pos (by omega)]
  · rw [if_neg h]
    by_cases e : j = i
    · subst e
      rw [if_pos rfl, if_pos (by omega), Nat.pow_zero, Nat.div_one]
    · rw [if_neg e, if_neg (by omega)]

set_option maxRecDepth 100000 in
set_option maxHeartbeats 16000000 in
theorem refPermute_ret (A : Nat → Nat) (hA : ∀ j, A j < 2 ^ 64) : Ret Tryd.prog 6 #[.agg (luC 25 A)] (.agg (luC 25 (permN A))) := by
  intro w
  have hmx : Tryd.prog.follows .mixedOrders = true := by kernel_rfl
  have HL := Lib.hid (permK_lt A hA)
  have HS := Lib.hid (permK_succ A)
  have HP : Hid (permN A = permK A 24) := Lib.hid rfl
  have LA := (Has.new w 24 (luC 25 A)).alloc (.cells #[.int .u64 0, .int .u64 0, .int .u64 0, .int .u64 0, .int .u64 0, .int .u64 0, .int .u64 0, .int .u64 0, .int .u64 0, .int .u64 0, .int .u64 0, .int .u64 0, .int .u64 0, .int .u64 0, .int .u64 0, .int .u64 0, .int .u64 0, .int .u64 0, .int .u64 0, .int .u64 0, .int .u64 0, .int .u64 0, .int .u64 0, .int .u64 0, .int .u64 0] 24)
  have LR := Has.new (w.alloc (.cells (luC 25 A) 24)) 24 #[.int .u64 0, .int .u64 0, .int .u64 0, .int .u64 0, .int .u64 0, .int .u64 0, .int .u64 0, .int .u64 0, .int .u64 0, .int .u64 0, .int .u64 0, .int .u64 0, .int .u64 0, .int .u64 0, .int .u64 0, .int .u64 0, .int .u64 0, .int .u64 0, .int .u64 0, .int .u64 0, .int .u64 0, .int .u64 0, .int .u64 0, .int .u64 0, .int .u64 0]
  simp only [World.size_alloc] at LR
  have Q := ((Below.refl w.heap.size w).alloc (Nat.le_refl _) (.cells (luC 25 A) 24)).alloc (by simp) (.cells #[.int .u64 0, .int .u64 0, .int .u64 0, .int .u64 0, .int .u64 0, .int .u64 0, .int .u64 0, .int .u64 0, .int .u64 0, .int .u64 0, .int .u64 0, .int .u64 0, .int .u64 0, .int .u64 0, .int .u64 0, .int .u64 0, .int .u64 0, .int .u64 0, .int .u64 0, .int .u64 0, .int .u64 0, .int .u64 0, .int .u64 0, .int .u64 0, .int .u64 0] 24)
  have hsz : ((w.alloc (.cells (luC 25 A) 24)).alloc (.cells #[.int .u64 0, .int .u64 0, .int .u64 0, .int .u64 0, .int .u64 0, .int .u64 0, .int .u64 0, .int .u64 0, .int .u64 0, .int .u64 0, .int .u64 0, .int .u64 0, .int .u64 0, .int .u64 0, .int .u64 0, .int .u64 0, .int .u64 0, .int .u64 0, .int .u64 0, .int .u64 0, .int .u64 0, .int .u64 0, .int .u64 0, .int .u64 0, .int .u64 0] 24)).heap.size = w.heap.size + 1 + 1 := by simp
  have HLA := Lib.hid (load25 LA)
  clear LA
  go_enter Tryd.func6, Tryd.ntmps6
  go_wp2_with (refine wpList_loadB rfl _ _ rfl w.heap.size rfl _ HLA.out ?_)
  obtain ⟨W0, hW0⟩ : ∃ W0, (w.alloc (.cells (luC 25 A) 24)).alloc (.cells #[.int .u64 0, .int .u64 0, .int .u64 0, .int .u64 0, .int .u64 0, .int .u64 0, .int .u64 0, .int .u64 0, .int .u64 0, .int .u64 0, .int .u64 0, .int .u64 0, .int .u64 0, .int .u64 0, .int .u64 0, .int .u64 0, .int .u64 0, .int .u64 0, .int .u64 0, .int .u64 0, .int .u64 0, .int .u64 0, .int .u64 0, .int .u64 0, .int .u64 0] 24) = W0 := ⟨_, rfl⟩
  rw [hW0] at LR Q hsz HLA ⊢
  clear hW0 HLA
  have hq := Q.size
  refine (bits_calls A hA W0).mono ?_
  rintro e w1 ⟨gb, cb, rfl, hgb, RB, q⟩
  have HLR := Lib.hid (LR.later q)
  have HQ := Lib.hid (Q.trans (q.mono Q.size))
  have HRB := Lib.hid RB
  clear q LR Q RB hA
  go_wp2_with fail
  refine (rcs_calls w1).mono ?_
  rintro e w2 ⟨gr, cr, rfl, hgr, RC, q⟩
  replace HLR := Lib.hid (HLR.out.later q)
  replace HQ := Lib.hid (HQ.out.trans (q.mono HQ.out.size))
  have CB : CellsAt w2 gb 1600 (bitN (permK A 0)) := (HRB.out.later q).cellsAt
  have CR : CellsAt w2 gr 168 rcN := RC.cellsAt
  have hgr0 : w.heap.size ≤ gr := Nat.le_trans (by have := HQ.out.size; have := HRB.out.lt; omega) hgr
  have hgr1 : w.heap.size + 1 < gr := by have := HRB.out.lt; omega
  have HCR := Lib.hid CR
  have HGR := Lib.hid (And.intro hgr0 hgr1)
  clear q RC CR HRB hgr hgr0 hgr1 hgb hq
  go_wp2_with fail
  go_loopw [3, 5] (fun vb i wr => ∃ k : Nat, k ≤ 24 ∧ i = .int .i64 (k : Int) ∧ (∃ gb cb : Nat, vb = .slice (some ⟨gb, 0, none⟩) 1600 cb ∧ CellsAt wr gb 1600 (bitN (permK A k))) ∧ Has wr (w.heap.size + 1) 24 #[.int .u64 0, .int .u64 0, .int .u64 0, .int .u64 0, .int .u64 0, .int .u64 0, .int .u64 0, .int .u64 0, .int .u64 0, .int .u64 0, .int .u64 0, .int .u64 0, .int .u64 0, .int .u64 0, .int .u64 0, .int .u64 0, .int .u64 0, .int .u64 0, .int .u64 0, .int .u64 0, .int .u64 0, .int .u64 0, .int .u64 0, .int .u64 0, .int .u64 0] ∧ CellsAt wr gr 168 rcN ∧ Below w.heap.size w wr) (fun _ i _ => 24 - (intOf i).toNat)
  case atStart => exact ⟨0, by omega, rfl, ⟨_, _, rfl, CB⟩, HLR.out, HCR.out, HQ.out⟩
  case round =>
    clear CB HLR HCR HQ
    obtain ⟨k, hk, rfl, ⟨gb, cb, rfl, CB⟩, LR, CR, Q⟩ := hrel
    by_cases hlt : k < 24
    · have hkI : (k : Int) < 24 := by omega
      have hk0 : (0 : Int) ≤ (k : Int) := by omega
      have hP := HL.out k (by omega)
      have HS' := Lib.hid (HS.out k hlt)
      have HIO := Lib.hid (io_bits (permK A k) k hlt)
      have HLT := Lib.hid hlt
      have HLR := Lib.hid LR
      have HCR := Lib.hid CR
      have HQ := Lib.hid Q
      have HCB := Lib.hid CB
      generalize hPk : permK A k = P at *
      clear hPk hk hlt LR CR Q CB
      go_wp2_with fail
      refine (refTheta_calls gb cb (bitN P) (bitN_le P) wr HCB.out).mono ?_
      rintro e w3 ⟨h3, rfl, hh3, L3, q⟩
      replace HLR := Lib.hid (HLR.out.later q)
      replace HCR : Hid (CellsAt w3 gr 168 rcN) := Lib.hid (HCR.out.below q (HCR.out.lt (by omega)))
      replace HQ := Lib.hid (HQ.out.trans (q.mono HQ.out.size))
      rw [inC_congr 1600 (theN (bitN P)) (bitN (thetaN P)) (fun j hj => theN_bits P hP j hj)] at L3
      have HC3 := Lib.hid L3.cellsAt
      clear q L3 HCB hh3
      go_wp2_with fail
      refine (rho_calls h3 1600 (bitN (thetaN P)) w3 HC3.out).mono ?_
      rintro e w4 ⟨h4, c4, rfl, hh4, L4, q⟩
      replace HLR := Lib.hid (HLR.out.later q)
      replace HCR : Hid (CellsAt w4 gr 168 rcN) := Lib.hid (HCR.out.below q (HCR.out.lt (by omega)))
      replace HQ := Lib.hid (HQ.out.trans (q.mono HQ.out.size))
      have HC4 := Lib.hid L4.cellsAt
      clear q L4 HC3 hh4
      go_wp2_with fail
      refine (pi_calls h4 c4 _ w4 HC4.out).mono ?_
      rintro e w5 ⟨rfl, L5, q⟩
      replace HLR := Lib.hid (HLR.out.later q)
      replace HCR : Hid (CellsAt w5 gr 168 rcN) := Lib.hid (HCR.out.below q (HCR.out.lt (by omega)))
      replace HQ := Lib.hid (HQ.out.trans (q.mono HQ.out.size))
      rw [inC_congr 1600 _ (bitN (turnK (thetaN P) 24)) (fun j hj => turned_bits (thetaN P) (fun j => thetaN_lt P hP j) j hj)] at L5
      have HC5 := Lib.hid L5.cellsAt
      clear q L5 HC4
      generalize w4.heap.size = h5 at *
      go_wp2_with fail
      refine (chi_calls h5 1600 (bitN (turnK (thetaN P) 24)) (bitN_le _) w5 HC5.out).mono ?_
      rintro e w6 ⟨rfl, L6, q⟩
      have hrl := HCR.out.lt (by omega)
      have hll := HLR.out.lt
      have hww := HQ.out.size
      replace HLR := Lib.hid (HLR.out.later q)
      replace HCR : Hid (CellsAt w6 gr 168 rcN) := Lib.hid (HCR.out.below q (HCR.out.lt (by omega)))
      replace HQ := Lib.hid (HQ.out.trans (q.mono HQ.out.size))
      rw [inC_congr 1600 _ (ioN (mixN (turnK (thetaN P) 24)) k 0) (fun j hj => chiN_bits (turnK (thetaN P) 24) j hj)] at L6
      have HL6 := Lib.hid L6
      clear q L6 HC5
      generalize w5.heap.size = h6 at *
      have HG6 := Lib.hid (And.intro hrl (And.intro hll hww))
      generalize mixN (turnK (thetaN P) 24) = M at *
      clear hrl hll hww hP
      go_wp2_with fail
      go_loopw [6, 7] (fun vz i wr => ∃ j : Nat, j ≤ 7 ∧ i = .int .i64 (j : Int) ∧ vz = .int .i64 ((2 ^ j : Nat) : Int) ∧ Has wr h6 3 (inC 1600 (ioN M k j)) ∧ Has wr (w.heap.size + 1) 24 #[.int .u64 0, .int .u64 0, .int .u64 0, .int .u64 0, .int .u64 0, .int .u64 0, .int .u64 0, .int .u64 0, .int .u64 0, .int .u64 0, .int .u64 0, .int .u64 0, .int .u64 0, .int .u64 0, .int .u64 0, .int .u64 0, .int .u64 0, .int .u64 0, .int .u64 0, .int .u64 0, .int .u64 0, .int .u64 0, .int .u64 0, .int .u64 0, .int .u64 0] ∧ CellsAt wr gr 168 rcN ∧ Below w.heap.size w wr) (fun _ i _ => 7 - (intOf i).toNat)
      case atStart => exact ⟨0, by omega, rfl, rfl, HL6.out, HLR.out, HCR.out, HQ.out⟩
      case round =>
        clear HL6 HLR HCR HQ
        obtain ⟨j, hj, rfl, rfl, L6, LR, CR, Q⟩ := hrel
        by_cases hj7 : j < 7
        · have hjI : (j : Int) < 7 := by omega
          have hj0 : (0 : Int) ≤ (j : Int) := by omega
          have hpw : 2 ^ j ≤ 64 := by
            have := Nat.pow_le_pow_right (show 2 > 0 by omega) (show j ≤ 6 by omega)
            omega
          have hp1 : 1 ≤ 2 ^ j := Nat.one_le_two_pow
          have ep : ((2 ^ j : Nat) : Int) - 1 = ((2 ^ j - 1 : Nat) : Int) := by omega
          have e2 : 2 * ((2 ^ j : Nat) : Int) = ((2 ^ (j + 1) : Nat) : Int) := by rw [Nat.pow_succ]; omega
          have ei : (j : Int) + 7 * (k : Int) = ((j + 7 * k : Nat) : Int) := by omega
          have hi168 : j + 7 * k < 168 := by have := HLT.out; omega
          have kb : ∀ X : Ext wr, X.w.cell? ⟨h6, 2 ^ j - 1, none⟩ = some (.int .i64 ((ioN M k j (2 ^ j - 1) : Nat) : Int)) := fun X => (L6.later X.below).cell _ _ (inC_get 1600 _ _ (by omega))
          have kc : ∀ X : Ext wr, X.w.cell? ⟨gr, j + 7 * k, none⟩ = some (.int .i64 ((rcN (j + 7 * k) : Nat) : Int)) := fun X => (X.below.cell (p := ⟨gr, _, none⟩) (CR.lt (by omega))).trans (CR _ hi168)
          have b0 := ioN_le M k j (2 ^ j - 1)
          have b1 : rcN (j + 7 * k) ≤ 1 := lf_le _ _
          have es : ((ioN M k j (2 ^ j - 1) : Nat) : Int) + ((rcN (j + 7 * k) : Nat) : Int) = ((ioN M k j (2 ^ j - 1) + rcN (j + 7 * k) : Nat) : Int) := by omega
          have em : ((ioN M k j (2 ^ j - 1) + rcN (j + 7 * k) : Nat) : Int).tmod 2 = (((ioN M k j (2 ^ j - 1) + rcN (j + 7 * k)) % 2 : Nat) : Int) := by rw [Int.tmod_eq_emod_of_nonneg (by omega)]; omega
          have HB : Hid (∀ p, p < 1600 → ioN M k (j + 1) p = if p = 2 ^ j - 1 then (ioN M k j (2 ^ j - 1) + rcN (j + 7 * k)) % 2 else ioN M k j p) := Lib.hid (fun p _ => by
            show (if p = 2 ^ j - 1 then (ioN M k j p + rcN (j + 7 * k)) % 2 else ioN M k j p) = _
            by_cases e : p = 2 ^ j - 1
            · rw [if_pos e, if_pos e, e]
            · rw [if_neg e, if_neg e])
          have hs2 : ioN M k j (2 ^ j - 1) + rcN (j + 7 * k) ≤ 2 := by omega
          have hpp : 2 ^ j - 1 < 64 := by omega
          generalize (ioN M k j (2 ^ j - 1) + rcN (j + 7 * k)) % 2 = v at *
          generalize ioN M k j (2 ^ j - 1) + rcN (j + 7 * k) = s at *
          generalize ioN M k j (2 ^ j - 1) = x at *
          generalize rcN (j + 7 * k) = y at *
          generalize j + 7 * k = i7 at *
          generalize hpj : 2 ^ (j + 1) = pj1 at *
          generalize 2 ^ j - 1 = p at *
          generalize 2 ^ j = pj at *
          have HPJ := Lib.hid hpj
          have xI : (x : Int) ≤ 1 := by omega
          have yI : (y : Int) ≤ 1 := by omega
          have sI : (s : Int) ≤ 2 := by omega
          have pI : (p : Int) < 1600 := by omega
          have i7I : (i7 : Int) < 168 := by omega
          have pjI : (pj : Int) ≤ 64 := by omega
          have pj0 : (1 : Int) ≤ (pj : Int) := by omega
          have HLJ := Lib.hid hj7
          have HL6 := Lib.hid L6
          have HLR := Lib.hid LR
          have HCR := Lib.hid CR
          have HQ := Lib.hid Q
          clear hj hj7 L6 LR CR Q hpj hpw hp1 hi168 b0 b1 hs2
          go_wp2_with fail
          refine wp_region_mix (C := Grows wr) [some true, some true, some true, some true, some true, some true, some true, some true, some true, some true, some true, some true, some true, some true, some true, some true, some true, some true, none] hmx (by kernel_rfl) (by kernel_rfl) (grows_refl wr) ?_
          simp only [headOf, tailOf]
          repeat (go_big_quiet_step (fail))
          refine wpQuiet_nil ?_
          rintro _ ⟨X, rfl⟩
          have kk := kb X
          have kz := (HL6.out.later X.below).frozen p
          have L1 := (HL6.out.later X.below).set p (.int .i64 ((v : Nat) : Int))
          rw [inC_set 1600 _ (ioN M k (j + 1)) p v HB.out] at L1
          have N1 := Lib.hid L1
          have N2 := Lib.hid ((HLR.out.later X.below).other (p := ⟨h6, p, none⟩) (by have := HG6.out; simp; omega) (.int .i64 ((v : Nat) : Int)))
          have N3 : Hid (CellsAt (X.w.setCell ⟨h6, p, none⟩ (.int .i64 ((v : Nat) : Int))) gr 168 rcN) := Lib.hid ((HCR.out.below X.below (HCR.out.lt (by omega))).below ((Below.refl h6 X.w).setCell (p := ⟨h6, p, none⟩) (Nat.le_refl _) (.int .i64 ((v : Nat) : Int))) HG6.out.1)
          have N4 := Lib.hid ((HQ.out.trans (X.below.mono HQ.out.size)).setCell (p := ⟨h6, p, none⟩) HG6.out.2.2 (.int .i64 ((v : Nat) : Int)))
          clear L1 kb kc HL6 HLR HCR HQ HB
          go_wp2
          rw [calmPost_normal]
          go_wp2_with fail
          go_roundw
          case rel => exact ⟨j + 1, by have := HLJ.out; omega, by simp, by rw [HPJ.out], N1.out, N2.out, N3.out, N4.out⟩
          case measure => simp [intOf]; omega
        · obtain rfl : j = 7 := by omega
          simp only [Int.cast_ofNat_Int]
          have hE : CellsAt wr h6 1600 (bitN (permK A (k + 1))) := fun p hp => by
            rw [HS'.out, ← HIO.out p hp]
            exact L6.cellsAt p hp
          have HE := Lib.hid hE
          have HLR := Lib.hid LR
          have HCR := Lib.hid CR
          have HQ := Lib.hid Q
          clear hE L6 LR CR Q
          go_wp2_with fail
          go_roundw
          case rel => exact ⟨k + 1, by have := HLT.out; omega, by simp, ⟨_, _, rfl, HE.out⟩, HLR.out, HCR.out, HQ.out⟩
          case measure => simp [intOf]; omega
    · obtain rfl : k = 24 := by omega
      simp only [Int.cast_ofNat_Int]
      have hL := HL.out 24 (by omega)
      rw [← HP.out] at CB hL
      obtain ⟨L, hLd⟩ : ∃ L, permN A = L := ⟨_, rfl⟩
      rw [hLd] at CB hL
      have HE := Lib.hid hLd
      clear hLd
      have LO := Has.new wr 24 #[.int .u64 0, .int .u64 0, .int .u64 0, .int .u64 0, .int .u64 0, .int .u64 0, .int .u64 0, .int .u64 0, .int .u64 0, .int .u64 0, .int .u64 0, .int .u64 0, .int .u64 0, .int .u64 0, .int .u64 0, .int .u64 0, .int .u64 0, .int .u64 0, .int .u64 0, .int .u64 0, .int .u64 0, .int .u64 0, .int .u64 0, .int .u64 0, .int .u64 0]
      have hb1 := LR.lt
      have hgl := CB.lt (by omega)
      obtain ⟨Wm, hWm⟩ : ∃ Wm, Wm = wr := ⟨_, rfl⟩
      subst hWm
      have QM := (Below.refl Wm.heap.size Wm).alloc (Nat.le_refl _) (.cells #[.int .u64 0, .int .u64 0, .int .u64 0, .int .u64 0, .int .u64 0, .int .u64 0, .int .u64 0, .int .u64 0, .int .u64 0, .int .u64 0, .int .u64 0, .int .u64 0, .int .u64 0, .int .u64 0, .int .u64 0, .int .u64 0, .int .u64 0, .int .u64 0, .int .u64 0, .int .u64 0, .int .u64 0, .int .u64 0, .int .u64 0, .int .u64 0, .int .u64 0] 24)
      have HCB := Lib.hid CB
      have HLR := Lib.hid LR
      have HQ0 := Lib.hid Q
      have HL2 := Lib.hid hL
      clear CB LR CR Q HL HS HP hk hlt hL
      go_wp2_with fail
      obtain ⟨W1, hW1⟩ : ∃ W1, Wm.alloc (.cells #[.int .u64 0, .int .u64 0, .int .u64 0, .int .u64 0, .int .u64 0, .int .u64 0, .int .u64 0, .int .u64 0, .int .u64 0, .int .u64 0, .int .u64 0, .int .u64 0, .int .u64 0, .int .u64 0, .int .u64 0, .int .u64 0, .int .u64 0, .int .u64 0, .int .u64 0, .int .u64 0, .int .u64 0, .int .u64 0, .int .u64 0, .int .u64 0, .int .u64 0] 24) = W1 := ⟨_, rfl⟩
      rw [hW1] at LO QM ⊢
      clear hW1
      rw [zeros25, luC_congr 25 (fun _ => 0) (outK L 0 64) (fun j _ => by rw [outK_start L HL2.out, if_neg (by omega)])] at LO
      go_loopw [9] (fun i wr => ∃ x : Nat, x ≤ 25 ∧ i = .int .i64 (x : Int) ∧ Has wr Wm.heap.size 24 (luC 25 (outK L x 64)) ∧ Below Wm.heap.size Wm wr) (fun i _ => 25 - (intOf i).toNat)
      case atStart => exact ⟨0, by omega, rfl, LO, QM⟩
      case round =>
        clear LO QM
        obtain ⟨x, hx, rfl, LO, Q⟩ := hrel
        by_cases hx5 : x < 25
        · have hxI : (x : Int) < 25 := by omega
          have hx0 : (0 : Int) ≤ (x : Int) := by omega
          have HLO := Lib.hid LO
          have HQ := Lib.hid Q
          clear LO Q
          go_wp2_with fail
          go_loopw [10] (fun i wr => ∃ z : Nat, z ≤ 64 ∧ i = .int .i64 ((z : Int) - 1) ∧ Has wr Wm.heap.size 24 (luC 25 (outK L x z)) ∧ Below Wm.heap.size Wm wr) (fun i _ => (intOf i + 1).toNat)
          case atStart => exact ⟨64, by omega, rfl, HLO.out, HQ.out⟩
          case round =>
            clear HLO HQ
            obtain ⟨z, hz, rfl, LO, Q⟩ := hrel
            by_cases hz0 : 0 < z
            · obtain ⟨y, rfl⟩ : ∃ y, z = y + 1 := ⟨z - 1, by omega⟩
              have ez : ((y + 1 : Nat) : Int) - 1 = (y : Int) := by omega
              rw [ez]
              have hyI : (y : Int) < 64 := by omega
              have hy0 : (0 : Int) ≤ (y : Int) := by omega
              have hLx := HL2.out x
              have ei : 64 * (x : Int) + (y : Int) = ((64 * x + y : Nat) : Int) := by omega
              have hi1 : 64 * x + y < 1600 := by omega
              have kb : ∀ X : Ext wr, X.w.cell? ⟨gb, 64 * x + y, none⟩ = some (.int .i64 ((L x / 2 ^ y % 2 : Nat) : Int)) := fun X => by
                rw [← bitN_at L x y (by omega)]
                exact ((Q.trans (X.below.mono Q.size)).cell (p := ⟨gb, _, none⟩) hgl).trans (HCB.out _ hi1)
              have vx : outK L x (y + 1) x = L x / 2 ^ y / 2 := by
                unfold outK
                rw [if_neg (by omega), if_pos rfl, Nat.pow_succ, ← Nat.div_div_eq_div_mul]
              have ko : ∀ X : Ext wr, X.w.cell? ⟨Wm.heap.size, x, none⟩ = some (.int .u64 ((L x / 2 ^ y / 2 : Nat) : Int)) := fun X => by
                rw [← vx]
                exact (LO.later X.below).cell _ _ (luC_get 25 _ x hx5)
              have hq : L x / 2 ^ y < 2 ^ 64 := Nat.lt_of_le_of_lt (Nat.div_le_self _ _) hLx
              have HB : Hid (∀ j, j < 25 → outK L x y j = if j = x then L x / 2 ^ y else outK L x (y + 1) j) := Lib.hid (fun j _ => by
                unfold outK
                by_cases e : j = x
                · subst e
                  rw [if_pos rfl, if_neg (by omega), if_pos rfl]
                · rw [if_neg e, if_neg e, if_neg e])
              generalize L x / 2 ^ y = n at *
              have w1 : IntKind.u64.wrap (2 * ((n / 2 : Nat) : Int)) = ((2 * (n / 2) : Nat) : Int) := by rw [IntKind.wrap_u64]; omega
              have w2 : IntKind.u64.wrap ((n % 2 : Nat) : Int) = ((n % 2 : Nat) : Int) := by rw [IntKind.wrap_u64]; omega
              have w3 : IntKind.u64.wrap (((2 * (n / 2) : Nat) : Int) + ((n % 2 : Nat) : Int)) = (n : Int) := by rw [IntKind.wrap_u64]; omega
              have hnI : (n : Int) < 18446744073709551616 := by omega
              generalize 2 * (n / 2) = n2 at *
              generalize n / 2 = nh at *
              generalize n % 2 = nb at *
              generalize 64 * x + y = p at *
              have hpI : (p : Int) < 1600 := by omega
              have HLO := Lib.hid LO
              have HQ := Lib.hid Q
              clear LO Q vx hz hz0 hq hLx
              go_wp2_with fail
              refine wp_region_mix (C := Grows wr) [some true, some true, some true, some true, some true, some true, some true, some true, some true, some true, some true, some true, some true, some true, some true, none] hmx (by kernel_rfl) (by kernel_rfl) (grows_refl wr) ?_
              simp only [headOf, tailOf]
              repeat (go_big_quiet_step (fail))
              refine wpQuiet_nil ?_
              rintro _ ⟨X, rfl⟩
              have kk := ko X
              have kz := (HLO.out.later X.below).frozen x
              have L1 := (HLO.out.later X.below).set x (.int .u64 ((n : Nat) : Int))
              rw [luC_set 25 _ (outK L x y) x n HB.out] at L1
              have N1 := Lib.hid L1
              have N4 := Lib.hid ((HQ.out.trans (X.below.mono HQ.out.size)).setCell (p := ⟨Wm.heap.size, x, none⟩) (Nat.le_refl _) (.int .u64 ((n : Nat) : Int)))
              clear L1 kb ko HLO HQ HB
              go_wp2
              rw [calmPost_normal]
              go_wp2_with fail
              go_roundw
              case rel => exact ⟨y, by omega, rfl, N1.out, N4.out⟩
              case measure => first | (simp [intOf]; done) | (simp [intOf]; omega)
            · obtain rfl : z = 0 := by omega
              have HLO : Hid (Has wr Wm.heap.size 24 (luC 25 (outK L (x + 1) 64))) := Lib.hid (by rw [luC_congr 25 (outK L (x + 1) 64) (outK L x 0) (fun j _ => by rw [outK_start L HL2.out, outK_end])]; exact LO)
              have HQ := Lib.hid Q
              clear LO Q
              go_wp2_with fail
              go_roundw
              case rel => exact ⟨x + 1, by omega, by simp, HLO.out, HQ.out⟩
              case measure => simp [intOf]; omega
        · obtain rfl : x = 25 := by omega
          simp only [Int.cast_ofNat_Int]
          rw [luC_congr 25 (outK L 25 64) L (fun j hj => by rw [outK_start L HL2.out, if_pos hj])] at LO
          have HA := Lib.hid (load25 LO)
          have HR := Lib.hid (HLR.out.below Q hb1)
          have HQ := Lib.hid (below_row (B := w.heap.size + 1) (HQ0.out.trans (Q.mono HQ0.out.size)) (by omega) (luC 25 L))
          have HR2 : Hid (Has (wr.setRow (w.heap.size + 1) (luC 25 L)) (w.heap.size + 1) 24 (luC 25 L)) := Lib.hid HR.out.row
          have hz : Hid ((#[.int .u64 0, .int .u64 0, .int .u64 0, .int .u64 0, .int .u64 0, .int .u64 0, .int .u64 0, .int .u64 0, .int .u64 0, .int .u64 0, .int .u64 0, .int .u64 0, .int .u64 0, .int .u64 0, .int .u64 0, .int .u64 0, .int .u64 0, .int .u64 0, .int .u64 0, .int .u64 0, .int .u64 0, .int .u64 0, .int .u64 0, .int .u64 0, .int .u64 0] : Array Value).size = (luC 25 L).size) := Lib.hid (by rw [luC_size]; rfl)
          clear LO Q
          go_wp2_with (first | (refine wpList_loadB rfl _ _ rfl Wm.heap.size rfl _ HA.out ?_) | (refine wpList_storeB rfl _ _ _ rfl (w.heap.size + 1) (luC 25 L) rfl rfl _ _ HR.out (infoL _) hz.out (one_luC 25 _) ?_))
          refine bodyPost_ret (results_cell_row rfl _ _ (w.heap.size + 1) _ _ (0, 0) _ rfl HR2.out Tryd.underlying24 rfl (infoL _)) rfl ⟨by rw [HE.out], HQ.out⟩
end Go.Proofs.YtobdjakflknlcaaDoor
