/- The reference's Hash, Sum, Cost and Run are the program's. -/
import Derived.Test.YtnjmhcooejcehaaDoorShaV
namespace Go.Proofs.YtnjmhcooejcehaaDoor
open Go Go.RowKit Go.Shelf
attribute [local go_sem] Oper.semAt_some Grows wide_fn eq4

theorem CellsAt.kept {W X : World} {row : Option Nat} {g n : Nat} {A : Nat → Nat} (h : CellsAt W g n A) (hn : 0 < n) (hg : W.grownBy X row) (hne : some g ≠ row) : CellsAt X g n A :=
  fun j hj => (World.cell?_of_block (w := W) (hg.block g (h.lt hn) hne)).trans (h j hj)
theorem cut_at (p : ByteArray) (f j : Nat) (hj : j < 64) (hp : f + 64 ≤ p.size) (g : j < (p.extract f (f + 64)).size) : (((p.extract f (f + 64))[j]'g).toNat : Int) = ((byN p (f + j) : Nat) : Int) := by
  rw [byN_at p (f + j) (by omega)]
  have h1 : (p.extract f (f + 64)).data = p.data.extract f (f + 64) := ByteArray.data_extract
  congr 2
  show (p.extract f (f + 64)).data[j]'_ = _
  simp only [h1]
  rw [Array.getElem_extract]

set_option maxRecDepth 100000 in
set_option maxHeartbeats 16000000 in
theorem refHash_ret (s : ByteArray) (hs : s.size ≤ 1048576) : Ret Tryd.prog 22 #[.string s] (.string (sumS s)) := by
  intro w
  have HPAD := Lib.hid (refPad_ret s hs)
  have hps := padT_size s
  have hNb : nbN s.size ≤ 16777216 := by unfold nbN; omega
  have HF : Hid (sumS s = texS (blkN s (nbN s.size))) := Lib.hid rfl
  have HBL := Lib.hid (blkN_lt s)
  have HBS : Hid (∀ m, blkN s (m + 1) = withN (blkN s m) (wdN fun j => padN s (64 * m + j))) := Lib.hid (fun m => rfl)
  have HPB : Hid (∀ m, m < nbN s.size → ∀ j, j < 64 → byN (padT s) (64 * m + j) = padN s (64 * m + j)) := Lib.hid (fun m hm j hj => padT_at s _ (by omega))
  have HPL := Lib.hid (pdK_lt s 8)
  generalize padT s = ps at *
  generalize nbN s.size = N at *
  have hpI : (ps.size : Int) = 64 * (N : Int) := by omega
  have hNI : (N : Int) ≤ 16777216 := by omega
  have HPI := Lib.hid hpI
  clear hs hpI
  go_enter Tryd.func22, Tryd.ntmps22
  go_wp2_with fail
  refine (roots_any 8 false (by omega) (by omega) w).mono ?_
  rintro e w1 ⟨gh, ch, rfl, hgh, RH, q⟩
  have HRH := Lib.hid (RH.congr (B := hN) (fun j hj => (Nat.eq_of_beq_eq_true (roots_h ⟨j, hj⟩)).symm))
  have HQ := Lib.hid q
  clear RH q
  go_wp2_with fail
  refine (roots_any 64 true (by omega) (by omega) w1).mono ?_
  rintro e w2 ⟨gk, ck, rfl, hgk, RK, q⟩
  have HRK := Lib.hid (RK.congr (B := kN) (fun j hj => (Nat.eq_of_beq_eq_true (roots_k ⟨j, hj⟩)).symm))
  replace HRH := Lib.hid (HRH.out.later q)
  replace HQ := Lib.hid (HQ.out.trans (q.mono HQ.out.size))
  clear RK q
  go_wp2_with fail
  refine (HPAD.out _).mono ?_
  rintro e w3 ⟨rfl, q⟩
  have HCH : Hid (CellsAt w3 gh 8 (blkN s 0)) := Lib.hid (HRH.out.later q).cellsAt
  have HCK := Lib.hid (HRK.out.later q).cellsAt
  replace HQ := Lib.hid (HQ.out.trans (q.mono HQ.out.size))
  clear q HRH HRK HPAD
  go_wp2_with fail
  go_loopw [3, 6] (fun t i wr => ∃ m : Nat, m ≤ N ∧ i = .int .i64 ((64 * m : Nat) : Int) ∧ (∃ g c : Nat, t = .slice (some ⟨g, 0, none⟩) 8 c ∧ CellsAt wr g 8 (blkN s m)) ∧ CellsAt wr gk 64 kN ∧ Below w.heap.size w wr) (fun _ i _ => 64 * N - (intOf i).toNat)
  case atStart => exact ⟨0, by omega, rfl, ⟨_, _, rfl, HCH.out⟩, HCK.out, HQ.out⟩
  case round =>
    clear HCH HCK HQ
    obtain ⟨m, hm, rfl, ⟨g, c, rfl, CH⟩, CK, Q⟩ := hrel
    have hpI := HPI.out
    by_cases hlt : m < N
    · have hm0 : (0 : Int) ≤ ((64 * m : Nat) : Int) := by omega
      have hm1 : ((64 * m : Nat) : Int) + 64 ≤ (ps.size : Int) := by omega
      have hm2 : ((64 * m : Nat) : Int) ≤ 1073741824 := by omega
      have hm3 : ((64 * m : Nat) : Int) < (ps.size : Int) := by omega
      have hle : ((64 * m : Nat) : Int) ≤ ((64 * m : Nat) : Int) + 64 := by omega
      have hsz : (ps.extract (64 * m) (64 * m + 64)).size = 64 := by rw [ByteArray.size_extract]; omega
      have hBA := fun w cH cK => block_any g c gk ck (blkN s m) (fun j => padN s (64 * m + j)) (ps.extract (64 * m) (64 * m + 64)) hsz (fun j => HPL.out _) (fun j gg => by
        rw [cut_at ps (64 * m) j (by rw [hsz] at gg; exact gg) (by omega) gg]
        exact congrArg _ (HPB.out m hlt j (by rw [hsz] at gg; exact gg))) (HBL.out m) w cH cK
      have HBA := Lib.hid hBA
      have HNX := Lib.hid (HBS.out m)
      have HM : Hid (64 * (m + 1) = 64 * m + 64) := Lib.hid (by omega)
      have ef : ((64 * m : Nat) : Int) + 64 = ((64 * m + 64 : Nat) : Int) := by omega
      clear hBA
      generalize hf2 : 64 * m + 64 = f2 at *
      generalize 64 * m = f at *
      have hf2I : (f2 : Int) ≤ (ps.size : Int) := by omega
      have hff : (f : Int) ≤ (f2 : Int) := by omega
      have hffN : f ≤ f2 := by omega
      have hf2N : f2 ≤ ps.size := by omega
      obtain ⟨blk, hblk⟩ : ∃ blk, ps.extract f f2 = blk := ⟨_, rfl⟩
      rw [hblk] at HBA
      have HCH := Lib.hid CH
      have HCK := Lib.hid CK
      have HQ := Lib.hid Q
      have HMN := Lib.hid hlt
      clear CH CK Q hlt hm hsz hle hpI hps
      go_wp2_with fail
      refine (HBA.out _ HCH.out HCK.out).mono ?_
      rintro e w5 ⟨g5, c5, rfl, hg5, R5, q⟩
      have HC5 := Lib.hid R5.cellsAt
      rw [← HNX.out] at HC5
      replace HCK : Hid (CellsAt w5 gk 64 kN) := Lib.hid (HCK.out.below q (HCK.out.lt (by omega)))
      replace HQ := Lib.hid (HQ.out.trans (q.mono HQ.out.size))
      clear q R5 HCH HBA hblk
      go_wp2_with fail
      go_roundw
      case rel => exact ⟨m + 1, by have := HMN.out; omega, by rw [HM.out], ⟨_, _, rfl, HC5.out⟩, HCK.out, HQ.out⟩
      case measure => have := HMN.out; have := HM.out; simp [intOf]; omega
    · obtain rfl : m = N := by omega
      have hge : (ps.size : Int) ≤ ((64 * m : Nat) : Int) := by omega
      obtain ⟨Wm, hWm⟩ : ∃ Wm, Wm = wr := ⟨_, rfl⟩
      subst hWm
      have hgl := CH.lt (by omega)
      have hL := HBL.out m
      have HCH := Lib.hid CH
      have HQ := Lib.hid Q
      have hww : w.heap.size ≤ Wm.heap.size := Q.size
      have RN : Wm.ownsRow Wm.heap.size 5 1 (.slice none 0 0) (4 * 0) (rowT (blkN s m) 0) := World.ownsRow_nil _ _ 5 1
      have hs0 : Wm.heap.size ≤ Wm.heap.size := Nat.le_refl _
      clear CH CK Q hm hlt HPB HBS HBL HPL hpI hps
      generalize hHB : blkN s m = H at *
      have HHB := Lib.hid hHB
      clear hHB
      generalize ((64 * m : Nat) : Int) = f at *
      generalize hbase : Wm.heap.size = base at *
      have hs0 : base ≤ Wm.heap.size := by omega
      clear hbase
      go_wp2_with fail
      go_loopw [7, 8] (fun t i wr => ∃ k : Nat, k ≤ 8 ∧ i = .int .i64 (k : Int) ∧ wr.ownsRow base 5 1 t (4 * k) (rowT H k) ∧ CellsAt wr g 8 H ∧ Below w.heap.size w wr ∧ base ≤ wr.heap.size) (fun _ i _ => 8 - (intOf i).toNat)
      case atStart => exact ⟨0, by omega, rfl, RN, HCH.out, HQ.out, hs0⟩
      case round =>
        clear RN HCH HQ hs0
        obtain ⟨k, hk, rfl, R, CH, Q, hsz⟩ := hrel
        by_cases hk8 : k < 8
        · have hkI : (k : Int) < 8 := by omega
          have hk0 : (0 : Int) ≤ (k : Int) := by omega
          obtain ⟨o7, cap7, rfl⟩ := row_formB R
          have kh := CH k hk8
          have hl := hL k
          have HS := Lib.hid (rowT_succ H k)
          have d3 : ((H k : Nat) : Int).tdiv 16777216 = ((H k / 2 ^ 24 % 256 : Nat) : Int) := by rw [Int.tdiv_eq_ediv_of_nonneg (by omega)]; omega
          have d2 : ((H k : Nat) : Int).tdiv 65536 = ((H k / 2 ^ 16 : Nat) : Int) := by rw [Int.tdiv_eq_ediv_of_nonneg (by omega)]; omega
          have d1 : ((H k : Nat) : Int).tdiv 256 = ((H k / 2 ^ 8 : Nat) : Int) := by rw [Int.tdiv_eq_ediv_of_nonneg (by omega)]; omega
          have m2 : ((H k / 2 ^ 16 : Nat) : Int).tmod 256 = ((H k / 2 ^ 16 % 256 : Nat) : Int) := by rw [Int.tmod_eq_emod_of_nonneg (by omega)]; omega
          have m1 : ((H k / 2 ^ 8 : Nat) : Int).tmod 256 = ((H k / 2 ^ 8 % 256 : Nat) : Int) := by rw [Int.tmod_eq_emod_of_nonneg (by omega)]; omega
          have m0 : ((H k : Nat) : Int).tmod 256 = ((H k % 256 : Nat) : Int) := by rw [Int.tmod_eq_emod_of_nonneg (by omega)]; omega
          have v3 : H k / 2 ^ 24 % 256 < 256 := Nat.mod_lt _ (by omega)
          have v2 : H k / 2 ^ 16 % 256 < 256 := Nat.mod_lt _ (by omega)
          have v1 : H k / 2 ^ 8 % 256 < 256 := Nat.mod_lt _ (by omega)
          have v0 : H k % 256 < 256 := Nat.mod_lt _ (by omega)
          have u2 : H k / 2 ^ 16 < 4294967296 := by omega
          have u1 : H k / 2 ^ 8 < 4294967296 := by omega
          generalize H k / 2 ^ 24 % 256 = b3 at *
          generalize H k / 2 ^ 16 % 256 = b2 at *
          generalize H k / 2 ^ 8 % 256 = b1 at *
          generalize H k % 256 = b0 at *
          generalize H k / 2 ^ 16 = n2 at *
          generalize H k / 2 ^ 8 = n1 at *
          generalize H k = n at *
          have x3 : IntKind.u8.wrap (b3 : Int) = (b3 : Int) := by rw [IntKind.wrap_u8']; omega
          have x2 : IntKind.u8.wrap (b2 : Int) = (b2 : Int) := by rw [IntKind.wrap_u8']; omega
          have x1 : IntKind.u8.wrap (b1 : Int) = (b1 : Int) := by rw [IntKind.wrap_u8']; omega
          have x0 : IntKind.u8.wrap (b0 : Int) = (b0 : Int) := by rw [IntKind.wrap_u8']; omega
          have nI : (n : Int) < 4294967296 := by omega
          have n2I : (n2 : Int) < 4294967296 := by omega
          have n1I : (n1 : Int) < 4294967296 := by omega
          have b3I : (b3 : Int) < 256 := by omega
          have b2I : (b2 : Int) < 256 := by omega
          have b1I : (b1 : Int) < 256 := by omega
          have b0I : (b0 : Int) < 256 := by omega
          have HRow := Lib.hid R
          have HCH := Lib.hid CH
          have HQ := Lib.hid Q
          have HZ := Lib.hid hsz
          have HK8 := Lib.hid hk8
          obtain ⟨i0, hi, hz0', hz1, hz2⟩ := info_partsB infoB
          clear R CH Q hsz hk hk8 v3 v2 v1 v0 u2 u1 hl
          go_wp2_with (at_builtin; refine wpList_append_own _ rfl _ _ 26 rfl base 5 i0 (.int .u8 0) 1 1 Tryd.underlying26 hi hz0' hz1 hz2 rfl (by decide) _ _ _ rfl (HRow.out.alloc _) ⟨wr.heap.size, 0, none⟩ 4 4 [.int .u8 (b3 : Int), .int .u8 (b2 : Int), .int .u8 (b1 : Int), .int .u8 (b0 : Int)] rfl rfl (cell_four _ _ _ _ _ _) (by simp [Value.oneCell']) (by unfold maxLen; have := HK8.out; omega) (by have := HK8.out; omega) (by have := HZ.out; simp; omega) ?_; intro v' w3 hown' hgrow hnil)
          clear hi hz0' hz1 hz2
          go_wp2_with fail
          go_roundw
          case rel =>
            have hne := fun (r : Nat) e => ((HRow.out.alloc (.cells #[.int .u8 (b3 : Int), .int .u8 (b2 : Int), .int .u8 (b1 : Int), .int .u8 (b0 : Int)] 5)).lt r e).1
            have h1 := HK8.out
            have h3 := hgrow.size
            have h4 := HZ.out
            refine ⟨k + 1, by omega, by simp, ?_, CellsAt.kept (HCH.out.below ((Below.refl _ wr).alloc (Nat.le_refl _) _) (HCH.out.lt (by omega))) (by omega) hgrow (fun e => by have := hne _ e.symm; omega), (HQ.out.alloc HQ.out.size _).grown hgrow (by have := HQ.out.size; simp; omega) (fun j e => by have := hne j e; omega), by simp at h3; omega⟩
            rw [HS.out, show 4 * (k + 1) = 4 * k + 4 by omega]
            exact hown'
          case measure => simp [intOf]; omega
        · obtain rfl : k = 8 := by omega
          simp only [Int.cast_ofNat_Int]
          rw [show 4 * 8 = 32 from rfl] at R
          have hcv := conv_row (H := H) R
          obtain ⟨o7, cap7, rfl⟩ := row_formB R
          have HQ := Lib.hid Q
          clear R CH Q
          try rw [HHB.out] at HF
          obtain ⟨out, hout⟩ : ∃ out, texS H = out := ⟨_, rfl⟩
          rw [hout] at hcv HF
          clear hout
          go_wp2_with fail
          go_ret
          rw [HF.out]
          exact ⟨rfl, HQ.out⟩

set_option maxRecDepth 100000 in
theorem refSum_ret (s : ByteArray) (hs : s.size ≤ 1048576) : Ret Tryd.prog 11 #[.string s] (.tuple #[.string (sumS s), .int .i64 0]) := by
  intro w
  have H := Lib.hid (refHash_ret s hs)
  have hsI : (s.size : Int) ≤ 1048576 := by omega
  go_enter Tryd.func11, Tryd.ntmps11
  go_wp2_with fail
  refine (H.out _).mono ?_
  rintro e w1 ⟨rfl, q⟩
  go_wp2_with fail
  go_ret2
  exact ⟨rfl, q⟩

set_option maxRecDepth 100000 in
set_option maxHeartbeats 4000000 in
theorem refCost_out (z0 z1 z2 z3 m : Int) (hm : m < 0 ∨ 1048576 < m) (hI : I64 m) : Ret Tryd.prog 14 #[W4 z0 z1 z2 z3, .int .i64 m] (.tuple #[.int .i64 0, .bool false]) := by
  intro w
  unfold I64 at hI
  have Q := (Below.refl w.heap.size w).alloc (Nat.le_refl _) (.cells #[.int .u64 z0, .int .u64 z1, .int .u64 z2, .int .u64 z3] 24)
  rcases hm with h | h
  · go_enter Tryd.func14, Tryd.ntmps14
    go_wp2
    go_ret2
    exact ⟨rfl, Q⟩
  · have h0 : ¬ m < 0 := by omega
    go_enter Tryd.func14, Tryd.ntmps14
    go_wp2
    go_ret2
    exact ⟨rfl, Q⟩

set_option maxRecDepth 100000 in
set_option maxHeartbeats 4000000 in
theorem refCost_in (z0 z1 z2 z3 : Int) (m p : Nat) (hm : m ≤ 1048576) (b2 b4 : Bool) (c : Int) (i : Bool)
    (hr : ((m : Int) + 31).tdiv 32 = (p : Int)) (hp : p ≤ 100000)
    (h2 : Ret Tryd.prog 12 #[.int .i64 2] (W4 2 0 0 0)) (h4 : Ret Tryd.prog 12 #[.int .i64 4] (W4 4 0 0 0))
    (e2 : (z0 == 2 && z1 == 0 && z2 == 0 && z3 == 0) = b2) (e4 : (z0 == 4 && z1 == 0 && z2 == 0 && z3 == 0) = b4)
    (hc : (c, i) = if b2 = true then ((60 : Int) + 12 * p, true) else if b4 = true then ((15 : Int) + 3 * p, true) else (0, false)) :
    Ret Tryd.prog 14 #[W4 z0 z1 z2 z3, .int .i64 (m : Int)] (.tuple #[.int .i64 c, .bool i]) := by
  intro w
  have H2 := Lib.hid h2
  have H4 := Lib.hid h4
  have hmI : (m : Int) ≤ 1048576 := by omega
  have hm0 : (0 : Int) ≤ (m : Int) := by omega
  have hpI : (p : Int) ≤ 100000 := by omega
  have hp0 : (0 : Int) ≤ (p : Int) := by omega
  clear h2 h4 hm hp
  have L := Has.new w 24 #[.int .u64 z0, .int .u64 z1, .int .u64 z2, .int .u64 z3]
  have Q := (Below.refl w.heap.size w).alloc (Nat.le_refl _) (.cells #[.int .u64 z0, .int .u64 z1, .int .u64 z2, .int .u64 z3] 24)
  go_enter Tryd.func14, Tryd.ntmps14
  have k0 := L.cell 0 _ rfl
  have k1 := L.cell 1 _ rfl
  have k2 := L.cell 2 _ rfl
  have k3 := L.cell 3 _ rfl
  clear L
  have HQ := Lib.hid Q
  clear Q
  go_wp2_with fail
  refine (H2.out _).mono ?_
  rintro e w2 ⟨rfl, q⟩
  have HQ2 := Lib.hid (HQ.out.trans (q.mono HQ.out.size))
  clear q HQ k0 k1 k2 k3
  cases b2 with
  | true =>
    simp only [if_true, Prod.mk.injEq] at hc
    obtain ⟨rfl, rfl⟩ := hc
    go_wp2_with fail
    go_ret2
    exact ⟨rfl, HQ2.out⟩
  | false =>
    go_wp2_with fail
    refine (H4.out _).mono ?_
    rintro e w3 ⟨rfl, q⟩
    have HQ3 := Lib.hid (HQ2.out.trans (q.mono HQ2.out.size))
    clear q HQ2
    cases b4 with
    | true =>
      simp only [if_true, if_false, Bool.false_eq_true, Prod.mk.injEq] at hc
      obtain ⟨rfl, rfl⟩ := hc
      go_wp2_with fail
      go_ret2
      exact ⟨rfl, HQ3.out⟩
    | false =>
      simp only [if_true, if_false, Bool.false_eq_true, Prod.mk.injEq] at hc
      obtain ⟨rfl, rfl⟩ := hc
      go_wp2_with fail
      go_ret2
      exact ⟨rfl, HQ3.out⟩

set_option maxRecDepth 100000 in
set_option maxHeartbeats 4000000 in
theorem refRun_no (z0 z1 z2 z3 g c : Int) (i : Bool) (s : ByteArray) (hn : i = false ∨ g < c)
    (hC : Ret Tryd.prog 14 #[W4 z0 z1 z2 z3, .int .i64 (s.size : Int)] (.tuple #[.int .i64 c, .bool i])) :
    Ret Tryd.prog 16 #[W4 z0 z1 z2 z3, .string s, .int .i64 g] (.tuple #[.string ⟨#[]⟩, .int .i64 0, .bool false]) := by
  intro w
  have HC := Lib.hid hC
  clear hC
  have L := Has.new w 24 #[.int .u64 z0, .int .u64 z1, .int .u64 z2, .int .u64 z3]
  have Q := (Below.refl w.heap.size w).alloc (Nat.le_refl _) (.cells #[.int .u64 z0, .int .u64 z1, .int .u64 z2, .int .u64 z3] 24)
  have k0 := L.cell 0 _ rfl
  have k1 := L.cell 1 _ rfl
  have k2 := L.cell 2 _ rfl
  have k3 := L.cell 3 _ rfl
  clear L
  cases i with
  | false =>
    go_enter Tryd.func16, Tryd.ntmps16
    go_wp2_with fail
    refine (HC.out _).mono ?_
    rintro e w1 ⟨rfl, q⟩
    have HQ := Lib.hid (Q.trans (q.mono Q.size))
    clear Q q k0 k1 k2 k3
    go_wp2_with fail
    go_ret3
    exact ⟨rfl, HQ.out⟩
  | true =>
    have hn : g < c := by rcases hn with h | h; cases h; exact h
    go_enter Tryd.func16, Tryd.ntmps16
    go_wp2_with fail
    refine (HC.out _).mono ?_
    rintro e w1 ⟨rfl, q⟩
    have HQ := Lib.hid (Q.trans (q.mono Q.size))
    clear Q q k0 k1 k2 k3
    go_wp2_with fail
    go_ret3
    exact ⟨rfl, HQ.out⟩

set_option maxRecDepth 100000 in
set_option maxHeartbeats 4000000 in
theorem refRun_yes (z0 z1 z2 z3 g c : Int) (b4 : Bool) (s S : ByteArray) (hg : c ≤ g) (hc0 : 0 ≤ c) (hgI : I64 g)
    (hC : Ret Tryd.prog 14 #[W4 z0 z1 z2 z3, .int .i64 (s.size : Int)] (.tuple #[.int .i64 c, .bool true]))
    (h2 : Ret Tryd.prog 12 #[.int .i64 4] (W4 4 0 0 0)) (e2 : (z0 == 4 && z1 == 0 && z2 == 0 && z3 == 0) = b4)
    (hS : Ret Tryd.prog 22 #[.string s] (.string S)) :
    Ret Tryd.prog 16 #[W4 z0 z1 z2 z3, .string s, .int .i64 g] (.tuple #[.string (if b4 = true then s else S), .int .i64 (g - c), .bool true]) := by
  intro w
  have hmx : Tryd.prog.follows .mixedOrders = true := by kernel_rfl
  have HC := Lib.hid hC
  have H2 := Lib.hid h2
  have HS := Lib.hid hS
  clear hC h2 hS
  have L := Has.new w 24 #[.int .u64 z0, .int .u64 z1, .int .u64 z2, .int .u64 z3]
  have Q := (Below.refl w.heap.size w).alloc (Nat.le_refl _) (.cells #[.int .u64 z0, .int .u64 z1, .int .u64 z2, .int .u64 z3] 24)
  have k0 := L.cell 0 _ rfl
  have k1 := L.cell 1 _ rfl
  have k2 := L.cell 2 _ rfl
  have k3 := L.cell 3 _ rfl
  have HL := Lib.hid L
  clear L
  unfold I64 at hgI
  obtain ⟨g0, g1⟩ := hgI
  have gc0 : -9223372036854775808 ≤ g - c := by omega
  have gc1 : g - c ≤ 9223372036854775807 := by omega
  have hng : ¬ g < c := by omega
  go_enter Tryd.func16, Tryd.ntmps16
  go_wp2_with fail
  refine (HC.out _).mono ?_
  rintro e w1 ⟨rfl, q⟩
  have HQ := Lib.hid (Q.trans (q.mono Q.size))
  have HL1 := HL.out.later q
  clear Q q k0 k1 k2 k3 HL
  have k0 : ∀ x : Ext w1, x.w.cell? ⟨w.heap.size, 0, none⟩ = some (.int .u64 z0) := fun x => (HL1.later x.below).cell 0 _ rfl
  have k1 : ∀ x : Ext w1, x.w.cell? ⟨w.heap.size, 1, none⟩ = some (.int .u64 z1) := fun x => (HL1.later x.below).cell 1 _ rfl
  have k2 : ∀ x : Ext w1, x.w.cell? ⟨w.heap.size, 2, none⟩ = some (.int .u64 z2) := fun x => (HL1.later x.below).cell 2 _ rfl
  have k3 : ∀ x : Ext w1, x.w.cell? ⟨w.heap.size, 3, none⟩ = some (.int .u64 z3) := fun x => (HL1.later x.below).cell 3 _ rfl
  clear HL1
  go_wp2_with fail
  refine wp_region_quietL (C := Grows w1) hmx (by kernel_rfl) (grows_refl w1) ?_
  repeat (go_big_quiet_step (first | (with_reducible exact Ret.at H2.out _)))
  refine wpQuiet_nil ?_
  rintro _ ⟨x, rfl⟩
  have HQ2 := Lib.hid (HQ.out.trans (x.below.mono HQ.out.size))
  clear k0 k1 k2 k3 HQ
  obtain ⟨w2, hw2⟩ : ∃ w2, x.w = w2 := ⟨_, rfl⟩
  rw [hw2] at HQ2 ⊢
  clear hw2 x
  cases b4 with
  | true =>
    go_wp2_with fail
    go_ret3
    exact ⟨rfl, HQ2.out⟩
  | false =>
    go_wp2_with fail
    refine (HS.out _).mono ?_
    rintro e w3 ⟨rfl, q⟩
    have HQ3 := Lib.hid (HQ2.out.trans (q.mono HQ2.out.size))
    clear q HQ2
    go_wp2_with fail
    go_ret3
    exact ⟨rfl, HQ3.out⟩

/-! ### The same answers, whatever the place -/
theorem both_cost (a : Nat) (ha : W256 a) (m : Int) (hm : I64 m) : ∃ (c : Int) (i : Bool), Ret Tryd.prog 13 #[W4 (lim a 0) (lim a 1) (lim a 2) (lim a 3), .int .i64 m] (.tuple #[.int .i64 c, .bool i]) ∧
    Ret Tryd.prog 14 #[W4 (lim a 0) (lim a 1) (lim a 2) (lim a 3), .int .i64 m] (.tuple #[.int .i64 c, .bool i]) := by
  by_cases h : m < 0 ∨ 1048576 < m
  · exact ⟨0, false, cost_out _ _ _ _ m h hm, refCost_out _ _ _ _ m h hm⟩
  · obtain ⟨k, rfl⟩ : ∃ k : Nat, m = (k : Int) := ⟨m.toNat, by omega⟩
    have hk : k ≤ 1048576 := by omega
    have hr : ((k : Int) + 31).tdiv 32 = (pcs k : Int) := by unfold pcs; rw [Int.tdiv_eq_ediv_of_nonneg (by omega)]; omega
    have h1 := fun c i hc => cost_in (lim a 0) (lim a 1) (lim a 2) (lim a 3) k (pcs k) hk _ _ c i (rounded_32 k hk) (pcs_le k hk) (of_small 2 (by omega)) (of_small 4 (by omega)) rfl rfl hc
    have h2 := fun c i hc => refCost_in (lim a 0) (lim a 1) (lim a 2) (lim a 3) k (pcs k) hk _ _ c i hr (pcs_le k hk) (refOf_small 2 (by omega)) (refOf_small 4 (by omega)) rfl rfl hc
    exact ⟨_, _, h1 _ _ rfl, h2 _ _ rfl⟩
theorem cost_at (a : Nat) (ha : W256 a) (m : Nat) (hm : m ≤ 1048576) : ∃ (c : Int) (i : Bool), 0 ≤ c ∧ (i = true → a = 2 ∨ a = 4) ∧ Ret Tryd.prog 13 #[W4 (lim a 0) (lim a 1) (lim a 2) (lim a 3), .int .i64 (m : Int)] (.tuple #[.int .i64 c, .bool i]) ∧
    Ret Tryd.prog 14 #[W4 (lim a 0) (lim a 1) (lim a 2) (lim a 3), .int .i64 (m : Int)] (.tuple #[.int .i64 c, .bool i]) := by
  have hr : ((m : Int) + 31).tdiv 32 = (pcs m : Int) := by unfold pcs; rw [Int.tdiv_eq_ediv_of_nonneg (by omega)]; omega
  have h1 := fun c i hc => cost_in (lim a 0) (lim a 1) (lim a 2) (lim a 3) m (pcs m) hm _ _ c i (rounded_32 m hm) (pcs_le m hm) (of_small 2 (by omega)) (of_small 4 (by omega)) (eq_small a 2 ha (by omega)) (eq_small a 4 ha (by omega)) hc
  have h2 := fun c i hc => refCost_in (lim a 0) (lim a 1) (lim a 2) (lim a 3) m (pcs m) hm _ _ c i hr (pcs_le m hm) (refOf_small 2 (by omega)) (refOf_small 4 (by omega)) (eq_small a 2 ha (by omega)) (eq_small a 4 ha (by omega)) hc
  by_cases e2 : a = 2
  · exact ⟨60 + 12 * (pcs m : Int), true, by omega, fun _ => .inl e2, h1 _ _ (by rw [if_pos (decide_eq_true e2)]), h2 _ _ (by rw [if_pos (decide_eq_true e2)])⟩
  · by_cases e4 : a = 4
    · exact ⟨15 + 3 * (pcs m : Int), true, by omega, fun _ => .inr e4, h1 _ _ (by rw [if_neg (by simp [e2]), if_pos (decide_eq_true e4)]), h2 _ _ (by rw [if_neg (by simp [e2]), if_pos (decide_eq_true e4)])⟩
    · exact ⟨0, false, by omega, (fun h => by cases h), h1 _ _ (by rw [if_neg (by simp [e2]), if_neg (by simp [e4])]), h2 _ _ (by rw [if_neg (by simp [e2]), if_neg (by simp [e4])])⟩
theorem both_run (a : Nat) (ha : W256 a) (s : ByteArray) (hs : s.size ≤ 1048576) (g : Int) (hg : I64 g) : ∃ (o : ByteArray) (l : Int) (i : Bool), RetT Tryd.prog 15 #[W4 (lim a 0) (lim a 1) (lim a 2) (lim a 3), .string s, .int .i64 g] (.tuple #[.string o, .int .i64 l, .bool i]) ∧
    Ret Tryd.prog 16 #[W4 (lim a 0) (lim a 1) (lim a 2) (lim a 3), .string s, .int .i64 g] (.tuple #[.string o, .int .i64 l, .bool i]) := by
  obtain ⟨c, i, hc0, hia, h1, h2⟩ := cost_at a ha s.size hs
  by_cases h : i = false ∨ g < c
  · exact ⟨_, _, _, (run_no _ _ _ _ g c i s h h1).toT, refRun_no _ _ _ _ g c i s h h2⟩
  · obtain rfl : i = true := by cases i; exact (h (.inl rfl)).elim; rfl
    have hcg : c ≤ g := by rcases Int.lt_or_le g c with h3 | h3; exact (h (.inr h3)).elim; exact h3
    have r1 := run_yes _ _ _ _ g c (decide (a = 2)) s (sumS s) hcg hc0 hg h1 (of_small 2 (by omega)) (eq_small a 2 ha (by omega)) (sum_ret s hs)
    have r2 := refRun_yes _ _ _ _ g c (decide (a = 4)) s (sumS s) hcg hc0 hg h2 (refOf_small 4 (by omega)) (eq_small a 4 ha (by omega)) (refHash_ret s hs)
    have e : (if decide (a = 2) = true then sumS s else s) = (if decide (a = 4) = true then s else sumS s) := by
      rcases hia rfl with rfl | rfl <;> rfl
    rw [e] at r1
    exact ⟨_, _, _, r1, r2⟩
end Go.Proofs.YtnjmhcooejcehaaDoor
