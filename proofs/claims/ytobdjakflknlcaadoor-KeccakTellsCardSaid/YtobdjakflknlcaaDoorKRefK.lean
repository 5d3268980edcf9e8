/- The reference's Hash and Sum are the program's. For all texts that are not too long. -/
import Derived.Test.YtobdjakflknlcaaDoorKRefJ
import Derived.Test.YtobdjakflknlcaaDoorKecP
namespace Go.Proofs.YtobdjakflknlcaaDoor
open Go Go.RowKit Go.Shelf
attribute [local go_sem] Oper.semAt_some Grows wide_fn field0

theorem row_formU {w : World} {base : Nat} {e : TypeId} {v : Value} {n : Nat} {xs : List Value} (h : w.ownsRow base e 1 v n xs) : ∃ o cap, v = .slice o n cap := row_form h
/-- So many bytes. -/
def rowU (A : Nat → Nat) (k : Nat) : List Value := (List.range k).map fun j => Value.int .u8 ((A j : Nat) : Int)
theorem rowU_succ (A : Nat → Nat) (k : Nat) : rowU A (k + 1) = rowU A k ++ [.int .u8 ((A k : Nat) : Int)] := by simp [rowU, List.range_succ]
theorem conv_row {W : World} {base : Nat} {v : Value} {A : Nat → Nat} (h : W.ownsRow base 5 1 v 32 (rowU (sqB A) 32)) : (convert 27 9 v).run Tryd.prog W = .ok (.string (sqS A)) W := by
  rcases h.2 with ⟨_, h0⟩ | ⟨g, cap, cur, rfl, _⟩
  · cases h0
  have hl : ((List.range 32).map fun j => UInt8.ofNat (sqB A j)).length = 32 := by simp
  have hc := h.cells (g := g) rfl
  have h2 := run_convert_bytes_back (P := Tryd.prog) W 27 9 5 ⟨g, 0, none⟩ cap ((List.range 32).map fun j => UInt8.ofNat (sqB A j)) Tryd.underlying27 Tryd.underlying5 Tryd.underlying9 (fun j hj => by
    have hj2 : j < 32 := by simpa using hj
    refine (hc j (.int .u8 ((sqB A j : Nat) : Int)) ?_).trans ?_
    · unfold rowU
      rw [List.getElem?_map, List.getElem?_range (by omega)]
      rfl
    · congr 2
      simp only [List.getElem_map, List.getElem_range]
      rw [UInt8.toNat_ofNat', Nat.mod_eq_of_lt (show sqB A j < 2 ^ 8 from sqB_lt A j)])
  rw [hl] at h2
  exact h2

set_option maxRecDepth 100000 in
set_option maxHeartbeats 16000000 in
theorem refHash_ret (s : ByteArray) (hs : s.size ≤ 1048576) : Ret Tryd.prog 24 #[.string s] (.string (sumS s)) := by
  intro w
  have HPAD := Lib.hid (refPad_ret s (by omega))
  have hps := padS_size s
  have hN : s.size / 136 + 1 ≤ 7895160 := by omega
  have HF : Hid (sumS s = sqS (blkN (padS s) (s.size / 136 + 1))) := Lib.hid rfl
  have HLT := Lib.hid (blkN_lt (padS s))
  have HBK : Hid (∀ k, blkN (padS s) (k + 1) = permN (absN (blkN (padS s) k) (fun j => byN (padS s) (136 * k + j)) 136)) := Lib.hid (fun k => rfl)
  have HB0 : Hid (luC 25 (blkN (padS s) 0) = #[.int .u64 0, .int .u64 0, .int .u64 0, .int .u64 0, .int .u64 0, .int .u64 0, .int .u64 0, .int .u64 0, .int .u64 0, .int .u64 0, .int .u64 0, .int .u64 0, .int .u64 0, .int .u64 0, .int .u64 0, .int .u64 0, .int .u64 0, .int .u64 0, .int .u64 0, .int .u64 0, .int .u64 0, .int .u64 0, .int .u64 0, .int .u64 0, .int .u64 0]) := Lib.hid rfl
  generalize padS s = ps at *
  generalize s.size / 136 + 1 = N at *
  have hpI : (ps.size : Int) = 136 * (N : Int) := by omega
  have hNI : (N : Int) ≤ 7895160 := by omega
  clear hs
  go_enter Tryd.func24, Tryd.ntmps24
  go_wp2_with fail
  refine (HPAD.out _).mono ?_
  rintro e w1 ⟨rfl, q⟩
  have LA := Has.new w1 24 #[.int .u64 0, .int .u64 0, .int .u64 0, .int .u64 0, .int .u64 0, .int .u64 0, .int .u64 0, .int .u64 0, .int .u64 0, .int .u64 0, .int .u64 0, .int .u64 0, .int .u64 0, .int .u64 0, .int .u64 0, .int .u64 0, .int .u64 0, .int .u64 0, .int .u64 0, .int .u64 0, .int .u64 0, .int .u64 0, .int .u64 0, .int .u64 0, .int .u64 0]
  have Q := q.alloc q.size (.cells #[.int .u64 0, .int .u64 0, .int .u64 0, .int .u64 0, .int .u64 0, .int .u64 0, .int .u64 0, .int .u64 0, .int .u64 0, .int .u64 0, .int .u64 0, .int .u64 0, .int .u64 0, .int .u64 0, .int .u64 0, .int .u64 0, .int .u64 0, .int .u64 0, .int .u64 0, .int .u64 0, .int .u64 0, .int .u64 0, .int .u64 0, .int .u64 0, .int .u64 0] 24)
  have hB : w.heap.size ≤ w1.heap.size := q.size
  clear q HPAD
  go_wp2_with fail
  obtain ⟨W0, hW0⟩ : ∃ W0, w1.alloc (.cells #[.int .u64 0, .int .u64 0, .int .u64 0, .int .u64 0, .int .u64 0, .int .u64 0, .int .u64 0, .int .u64 0, .int .u64 0, .int .u64 0, .int .u64 0, .int .u64 0, .int .u64 0, .int .u64 0, .int .u64 0, .int .u64 0, .int .u64 0, .int .u64 0, .int .u64 0, .int .u64 0, .int .u64 0, .int .u64 0, .int .u64 0, .int .u64 0, .int .u64 0] 24) = W0 := ⟨_, rfl⟩
  rw [hW0] at LA Q ⊢
  clear hW0
  rw [← HB0.out] at LA
  generalize w1.heap.size = B at *
  have HBW := Lib.hid hB
  clear hB
  go_loopw [5] (fun i wr => ∃ m : Nat, m ≤ N ∧ i = .int .i64 ((136 * m : Nat) : Int) ∧ Has wr B 24 (luC 25 (blkN ps m)) ∧ Below w.heap.size w wr) (fun i _ => 136 * N - (intOf i).toNat)
  case atStart => exact ⟨0, by omega, rfl, LA, Q⟩
  case round =>
    clear LA Q
    obtain ⟨m, hm, rfl, LA, Q⟩ := hrel
    by_cases hlt : m < N
    · have hmI : ((136 * m : Nat) : Int) < (ps.size : Int) := by omega
      have hm0 : (0 : Int) ≤ ((136 * m : Nat) : Int) := by omega
      have hm1 : ((136 * m : Nat) : Int) ≤ 1073741824 := by omega
      have hA := HLT.out m
      have HD : Hid (∀ j, (fun j => byN ps (136 * m + j)) j < 256) := Lib.hid (fun j => byN_lt ps _)
      have HDI : Hid (∀ i y : Nat, i < 17 → y < 8 → 136 * m + 8 * i + y < ps.size ∧ ∀ g : 136 * m + 8 * i + y < ps.size, ((ps[136 * m + 8 * i + y]'g).toNat : Int) = (((fun j => byN ps (136 * m + j)) (8 * i + y) : Nat) : Int)) := Lib.hid (fun i y hi hy => ⟨by omega, fun g => by
        show _ = ((byN ps (136 * m + (8 * i + y)) : Nat) : Int)
        rw [← Nat.add_assoc, byN_at ps _ g]
        rfl⟩)
      have HN' := HBK.out m
      have HM : Hid (136 * (m + 1) = 136 * m + 136) := Lib.hid (by omega)
      generalize (fun j => byN ps (136 * m + j)) = D at *
      generalize hbk : blkN ps m = A at *
      have HNX := Lib.hid HN'
      clear HN' hbk
      have LA : Has wr B 24 (luC 25 (xoN A D 0)) := LA
      have HLA := Lib.hid LA
      have HQ := Lib.hid Q
      have HMN := Lib.hid hlt
      clear LA Q hm hlt
      generalize 136 * m = f at *
      go_wp2_with fail
      go_loopw [6] (fun i wr => ∃ x : Nat, x ≤ 17 ∧ i = .int .i64 (x : Int) ∧ Has wr B 24 (luC 25 (xoN A D x)) ∧ Below w.heap.size w wr) (fun i _ => 17 - (intOf i).toNat)
      case atStart => exact ⟨0, by omega, rfl, HLA.out, HQ.out⟩
      case round =>
        clear HLA HQ
        obtain ⟨x, hx, rfl, LA, Q⟩ := hrel
        by_cases hx7 : x < 17
        · have hxI : (x : Int) < 17 := by omega
          have hx0 : (0 : Int) ≤ (x : Int) := by omega
          have HLA := Lib.hid LA
          have HQ := Lib.hid Q
          clear LA Q
          go_wp2_with fail
          go_loopw [7, 8] (fun n i wr => ∃ z : Nat, z ≤ 8 ∧ i = .int .i64 ((z : Int) - 1) ∧ n = .int .u64 ((wdK D x (8 - z) : Nat) : Int) ∧ Has wr B 24 (luC 25 (xoN A D x)) ∧ Below w.heap.size w wr) (fun _ i _ => (intOf i + 1).toNat)
          case atStart => exact ⟨8, by omega, rfl, rfl, HLA.out, HQ.out⟩
          case round =>
            clear HLA HQ
            obtain ⟨z, hz, rfl, rfl, LA, Q⟩ := hrel
            by_cases hz0 : 0 < z
            · obtain ⟨y, rfl⟩ : ∃ y, z = y + 1 := ⟨z - 1, by omega⟩
              have ez : ((y + 1 : Nat) : Int) - 1 = (y : Int) := by omega
              rw [ez]
              have hyI : (y : Int) < 8 := by omega
              have hy0 : (0 : Int) ≤ (y : Int) := by omega
              obtain ⟨hidx, hval⟩ := HDI.out x y hx7 (by omega)
              have hn := wdK_lt D HD.out x (8 - (y + 1))
              have hp : 256 ^ (8 - (y + 1)) ≤ 72057594037927936 := by
                have := Nat.pow_le_pow_right (show 256 > 0 by omega) (show 8 - (y + 1) ≤ 7 by omega)
                omega
              have hd := HD.out (8 * x + y)
              have hst : wdK D x (8 - y) = 256 * wdK D x (8 - (y + 1)) + D (8 * x + y) := by
                rw [show 8 - y = (8 - (y + 1)) + 1 by omega]
                show 256 * wdK D x (8 - (y + 1)) + D (8 * x + (7 - (8 - (y + 1)))) = _
                rw [show 7 - (8 - (y + 1)) = y by omega]
              have ei : (f : Int) + 8 * (x : Int) + (y : Int) = ((f + 8 * x + y : Nat) : Int) := by omega
              have hi1 : ((f + 8 * x + y : Nat) : Int) < (ps.size : Int) := by omega
              generalize D (8 * x + y) = d at *
              generalize wdK D x (8 - (y + 1)) = n at *
              generalize hn2 : wdK D x (8 - y) = n2 at *
              generalize f + 8 * x + y = idx at *
              have w1 : IntKind.u64.wrap (256 * (n : Int)) = ((256 * n : Nat) : Int) := by rw [IntKind.wrap_u64]; omega
              have w2 : IntKind.u64.wrap (d : Int) = (d : Int) := by rw [IntKind.wrap_u64]; omega
              have w3 : IntKind.u64.wrap (((256 * n : Nat) : Int) + (d : Int)) = (n2 : Int) := by rw [IntKind.wrap_u64]; omega
              have HN2 := Lib.hid hn2
              have HLA := Lib.hid LA
              have HQ := Lib.hid Q
              have hdI : (d : Int) < 256 := by omega
              clear LA Q hn2 hst hn hp hd hz hz0
              generalize 256 * n = n5 at *
              go_wp2_with fail
              go_roundw
              case rel => exact ⟨y, by omega, rfl, by rw [HN2.out], HLA.out, HQ.out⟩
              case measure => first | (simp [intOf]; done) | (simp [intOf]; omega)
            · obtain rfl : z = 0 := by omega
              have hw : wdK D x 8 < 2 ^ 64 := by have := wdK_lt D HD.out x 8; omega
              have hxx : xoN A D x x = A x := if_neg (by omega)
              have hAx := hA x
              have hb := xor_i (A x) (wdK D x 8) hAx hw
              have kA := LA.cell _ _ (luC_get 25 _ x (by omega))
              rw [hxx] at kA
              have kz := LA.frozen x
              have L1 := LA.set x (.int .u64 ((A x ^^^ wdK D x 8 : Nat) : Int))
              rw [luC_set 25 _ (xoN A D (x + 1)) x _ (xoN_set A D x)] at L1
              have HL1 := Lib.hid L1
              have HQ1 := Lib.hid (Q.setCell (p := ⟨B, x, none⟩) HBW.out (.int .u64 ((A x ^^^ wdK D x 8 : Nat) : Int)))
              clear LA Q L1 hxx hw
              simp only [Nat.sub_zero]
              generalize A x ^^^ wdK D x 8 = r at *
              generalize wdK D x 8 = n at *
              generalize A x = ax at *
              go_wp2_with fail
              go_roundw
              case rel => exact ⟨x + 1, by omega, by simp, HL1.out, HQ1.out⟩
              case measure => simp [intOf]; omega
        · obtain rfl : x = 17 := by omega
          simp only [Int.cast_ofNat_Int]
          rw [luC_congr 25 (xoN A D 17) (absN A D 136) (fun j _ => xoN_all A D HD.out j)] at LA
          have hAB := absN_lt A D hA HD.out 136
          have HPM := Lib.hid (refPermute_ret (absN A D 136) hAB)
          rw [← HNX.out] at HPM
          generalize absN A D 136 = AB at *
          generalize hb2 : blkN ps (m + 1) = A2 at *
          have HB2 := Lib.hid hb2
          have HL := Lib.hid (load25 LA)
          have HLA := Lib.hid LA
          have HQ := Lib.hid Q
          clear LA Q hb2 hAB
          have HI2 := Lib.hid (infoL A2)
          have HO2 := Lib.hid (one_luC 25 A2)
          have HZ2 : Hid ((luC 25 AB).size = (luC 25 A2).size) := Lib.hid (by rw [luC_size, luC_size])
          go_wp2_with (refine wpList_loadB rfl _ _ rfl B rfl _ HL.out ?_)
          refine (HPM.out _).mono ?_
          rintro e w5 ⟨rfl, q⟩
          have HLA5 := Lib.hid (HLA.out.later q)
          have N1 := Lib.hid (HLA5.out.row (cs' := luC 25 A2))
          have N2 := Lib.hid (below_row (HQ.out.trans (q.mono HQ.out.size)) HBW.out (luC 25 A2))
          clear q HLA HQ HL HPM
          go_wp2_with (refine wpList_storeB rfl _ _ _ rfl B (luC 25 A2) rfl rfl _ _ HLA5.out HI2.out HZ2.out HO2.out ?_)
          go_roundw
          case rel => exact ⟨m + 1, by have := HMN.out; omega, by rw [HM.out]; simp, by rw [HB2.out]; exact N1.out, N2.out⟩
          case measure => have := HMN.out; simp [intOf]; omega
    · obtain rfl : m = N := by omega
      have hge : (ps.size : Int) ≤ ((136 * m : Nat) : Int) := by omega
      have HL2 := Lib.hid (HLT.out m)
      obtain ⟨Wm, hWm⟩ : ∃ Wm, Wm = wr := ⟨_, rfl⟩
      subst hWm
      have HLA := Lib.hid LA
      have HQ := Lib.hid Q
      have hBl := LA.lt
      have RN : Wm.ownsRow (B + 1) 5 1 (.slice none 0 0) (8 * 0) (rowU (sqB (blkN ps m)) (8 * 0)) := World.ownsRow_nil _ _ 5 1
      clear LA Q hm hlt HLT HBK HB0
      generalize blkN ps m = A at *
      generalize ((136 * m : Nat) : Int) = f at *
      go_wp2_with fail
      go_loopw [9, 10] (fun t i wr => ∃ x : Nat, x ≤ 4 ∧ i = .int .i64 (x : Int) ∧ wr.ownsRow (B + 1) 5 1 t (8 * x) (rowU (sqB A) (8 * x)) ∧ Has wr B 24 (luC 25 A) ∧ Below w.heap.size w wr) (fun _ i _ => 4 - (intOf i).toNat)
      case atStart => exact ⟨0, by omega, rfl, RN, HLA.out, HQ.out⟩
      case round =>
        clear RN HLA HQ
        obtain ⟨x, hx, rfl, R, LA, Q⟩ := hrel
        by_cases hx5 : x < 4
        · have hxI : (x : Int) < 4 := by omega
          have hx0 : (0 : Int) ≤ (x : Int) := by omega
          have kl := LA.cell _ _ (luC_get 25 A x (by omega))
          have hl64 := HL2.out x
          have HB : Hid (∀ z, z < 8 → sqB A (8 * x + z) = A x / 256 ^ z % 256) := Lib.hid (fun z hz => by
            unfold sqB
            rw [show (8 * x + z) / 8 = x by omega, show (8 * x + z) % 8 = z by omega, show 256 = 2 ^ 8 from rfl, ← Nat.pow_mul])
          generalize A x = lx at *
          have HR := Lib.hid R
          have HLA := Lib.hid LA
          have HQ := Lib.hid Q
          clear R LA Q
          go_wp2_with fail
          go_loopw [9, 11, 12] (fun t v i wr => ∃ z : Nat, z ≤ 8 ∧ i = .int .i64 (z : Int) ∧ v = .int .u64 ((lx / 256 ^ z : Nat) : Int) ∧ wr.ownsRow (B + 1) 5 1 t (8 * x + z) (rowU (sqB A) (8 * x + z)) ∧ Has wr B 24 (luC 25 A) ∧ Below w.heap.size w wr) (fun _ _ i _ => 8 - (intOf i).toNat)
          case atStart => exact ⟨0, by omega, rfl, by rw [Nat.pow_zero, Nat.div_one], HR.out, HLA.out, HQ.out⟩
          case round =>
            clear HR HLA HQ kl
            obtain ⟨z, hz, rfl, rfl, R, LA, Q⟩ := hrel
            by_cases hz6 : z < 8
            · have hzI : (z : Int) < 8 := by omega
              have hz0 : (0 : Int) ≤ (z : Int) := by omega
              obtain ⟨o3, cap3, rfl⟩ := row_formU R
              have hlz : lx / 256 ^ z < 2 ^ 64 := Nat.lt_of_le_of_lt (Nat.div_le_self _ _) hl64
              have HS := Lib.hid (rowU_succ (sqB A) (8 * x + z))
              rw [HB.out z hz6] at HS
              have HN1 : Hid (lx / 256 ^ (z + 1) = lx / 256 ^ z / 256) := Lib.hid (by rw [Nat.pow_succ, ← Nat.div_div_eq_div_mul])
              generalize lx / 256 ^ z = n0 at *
              have e1 : ((n0 : Nat) : Int).tmod 256 = ((n0 % 256 : Nat) : Int) := by rw [Int.tmod_eq_emod_of_nonneg (by omega)]; omega
              have e2 : ((n0 : Nat) : Int).tdiv 256 = ((n0 / 256 : Nat) : Int) := by rw [Int.tdiv_eq_ediv_of_nonneg (by omega)]; omega
              have e3 : IntKind.u64.wrap ((n0 / 256 : Nat) : Int) = ((n0 / 256 : Nat) : Int) := by rw [IntKind.wrap_u64]; omega
              have e4 : IntKind.u64.wrap ((n0 % 256 : Nat) : Int) = ((n0 % 256 : Nat) : Int) := by rw [IntKind.wrap_u64]; omega
              have e5 : IntKind.u8.wrap ((n0 % 256 : Nat) : Int) = ((n0 % 256 : Nat) : Int) := by rw [IntKind.wrap_u8']; omega
              have hv1 : n0 % 256 < 256 := Nat.mod_lt _ (by omega)
              have hn1I' : n0 / 256 < 2 ^ 64 := by omega
              generalize n0 % 256 = b at *
              generalize n0 / 256 = n1 at *
              have hn1I : (n1 : Int) < 18446744073709551616 := by omega
              have hn0I : (n0 : Int) < 18446744073709551616 := by omega
              have hbI : (b : Int) < 256 := by omega
              have HLT := Lib.hid (And.intro hx5 hz6)
              have HRow := Lib.hid R
              have HLA := Lib.hid LA
              have HQ := Lib.hid Q
              have HBL := Lib.hid LA.lt
              obtain ⟨i0, hi, hz0', hz1, hz2⟩ := info_parts infoB
              clear R LA Q hz hz6 hlz hv1
              generalize hK : 8 * x + z = K at *
              have HK := Lib.hid hK
              clear hK
              go_wp2_with (at_builtin; refine wpList_append_own _ rfl _ _ 27 rfl (B + 1) 5 i0 (.int .u8 0) 1 1 Tryd.underlying27 hi hz0' hz1 hz2 rfl (by decide) _ _ _ rfl (HRow.out.alloc _) ⟨wr.heap.size, 0, none⟩ 1 1 [.int .u8 (b : Int)] rfl rfl (cell_one _ _ _) (by simp [Value.oneCell']) (by unfold maxLen; have := HLT.out; have := HK.out; omega) (by have := HLT.out; have := HK.out; omega) (by have := HBL.out; simp; omega) ?_; intro v' w3 hown' hgrow hnil)
              clear hi hz0' hz1 hz2
              go_wp2_with fail
              go_roundw
              case rel =>
                have hne := fun (r : Nat) e => ((HRow.out.alloc (.cells #[.int .u8 (b : Int)] 5)).lt r e).1
                have h1 := HLT.out
                have h2 := HBW.out
                refine ⟨z + 1, by omega, by simp, by rw [HN1.out], ?_, (HLA.out.alloc _).kept hgrow (fun e => by have := hne _ e.symm; omega), (HQ.out.alloc HQ.out.size _).grown hgrow (by have := HQ.out.size; simp; omega) (fun j e => by have := hne j e; omega)⟩
                rw [show 8 * x + (z + 1) = K + 1 by have := HK.out; omega, HS.out]
                exact hown'
              case measure => simp [intOf]; omega
            · obtain rfl : z = 8 := by omega
              simp only [Int.cast_ofNat_Int]
              have HR := Lib.hid R
              have HLA := Lib.hid LA
              have HQ := Lib.hid Q
              clear R LA Q
              go_wp2_with fail
              go_roundw
              case rel => exact ⟨x + 1, by omega, by simp, by rw [show 8 * (x + 1) = 8 * x + 8 by omega]; exact HR.out, HLA.out, HQ.out⟩
              case measure => simp [intOf]; omega
        · obtain rfl : x = 4 := by omega
          simp only [Int.cast_ofNat_Int]
          rw [show 8 * 4 = 32 from rfl] at R
          have hcv := conv_row R
          obtain ⟨o3, cap3, rfl⟩ := row_formU R
          have HQ := Lib.hid Q
          clear R LA Q
          obtain ⟨out, hout⟩ : ∃ out, sqS A = out := ⟨_, rfl⟩
          rw [hout] at hcv HF
          clear hout
          go_wp2_with fail
          go_ret
          rw [HF.out]
          exact ⟨rfl, HQ.out⟩

set_option maxRecDepth 100000 in
theorem refSum_ret (s : ByteArray) (hs : s.size ≤ 1048576) : Ret Tryd.prog 9 #[.string s] (.tuple #[.string (sumS s), .int .i64 0]) := by
  intro w
  have H := Lib.hid (refHash_ret s hs)
  have hsI : (s.size : Int) ≤ 1048576 := by omega
  go_enter Tryd.func9, Tryd.ntmps9
  go_wp2_with fail
  refine (H.out _).mono ?_
  rintro e w1 ⟨rfl, q⟩
  go_wp2_with fail
  go_ret2
  exact ⟨rfl, q⟩
end Go.Proofs.YtobdjakflknlcaaDoor
