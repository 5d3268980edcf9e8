/- The reference's bits of lanes. -/
import Derived.Test.YtobdjakflknlcaaDoorKRefE
namespace Go.Proofs.YtobdjakflknlcaaDoor
open Go Go.RowKit Go.Shelf
attribute [local go_sem] Oper.semAt_some Grows wide_fn field0

def bitN (L : Nat → Nat) (j : Nat) : Nat := L (j / 64) / 2 ^ (j % 64) % 2
theorem bitN_at (L : Nat → Nat) (i z : Nat) (hz : z < 64) : bitN L (64 * i + z) = L i / 2 ^ z % 2 := by
  unfold bitN
  rw [show (64 * i + z) / 64 = i by omega, show (64 * i + z) % 64 = z by omega]
theorem bitN_le (L : Nat → Nat) (j : Nat) : bitN L j ≤ 1 := by unfold bitN; omega

set_option maxRecDepth 100000 in
set_option maxHeartbeats 8000000 in
theorem bits_calls (L : Nat → Nat) (hL : ∀ j, L j < 2 ^ 64) (w : World) :
    Calls Tryd.prog 15 #[.agg (luC 25 L)] w fun e w' => ∃ h c, e = .returned (.slice (some ⟨h, 0, none⟩) 1600 c) ∧ w.heap.size ≤ h ∧ RowAt w' h 1600 (bitN L) ∧ Below w.heap.size w w' := by
  have HLL := Lib.hid hL
  clear hL
  have LA := Has.new w 24 (luC 25 L)
  have Q := (Below.refl w.heap.size w).alloc (Nat.le_refl _) (.cells (luC 25 L) 24)
  have RN : (w.alloc (.cells (luC 25 L) 24)).ownsRow (w.heap.size + 1) 3 1 (.slice none 0 0) (64 * 0) (rowI (bitN L) (64 * 0)) := World.ownsRow_nil _ _ 3 1
  have hsz : w.heap.size + 1 ≤ (w.alloc (.cells (luC 25 L) 24)).heap.size := by simp
  go_enter Tryd.func15, Tryd.ntmps15
  go_wp2_with fail
  obtain ⟨W0, hW0⟩ : ∃ W0, w.alloc (.cells (luC 25 L) 24) = W0 := ⟨_, rfl⟩
  rw [hW0] at LA Q RN hsz ⊢
  clear hW0
  go_loopw [3, 4] (fun t i wr => ∃ x : Nat, x ≤ 25 ∧ i = .int .i64 (x : Int) ∧ wr.ownsRow (w.heap.size + 1) 3 1 t (64 * x) (rowI (bitN L) (64 * x)) ∧ Has wr w.heap.size 24 (luC 25 L) ∧ Below w.heap.size w wr ∧ w.heap.size + 1 ≤ wr.heap.size) (fun _ i _ => 25 - (intOf i).toNat)
  case atStart => exact ⟨0, by omega, rfl, RN, LA, Q, hsz⟩
  case round =>
    clear RN LA Q hsz
    obtain ⟨x, hx, rfl, R, LA, Q, hsz⟩ := hrel
    by_cases hx5 : x < 25
    · have hxI : (x : Int) < 25 := by omega
      have hx0 : (0 : Int) ≤ (x : Int) := by omega
      have kl := LA.cell _ _ (luC_get 25 L x hx5)
      have hl64 := HLL.out x
      have HB := Lib.hid (fun z (hz : z < 64) => bitN_at L x z hz)
      generalize L x = lx at *
      have HR := Lib.hid R
      have HLA := Lib.hid LA
      have HQ := Lib.hid Q
      have HSZ := Lib.hid hsz
      clear R LA Q hsz
      go_wp2_with fail
      go_loopw [3, 5, 6] (fun t v i wr => ∃ z : Nat, z ≤ 64 ∧ i = .int .i64 (z : Int) ∧ v = .int .u64 ((lx / 2 ^ z : Nat) : Int) ∧ wr.ownsRow (w.heap.size + 1) 3 1 t (64 * x + z) (rowI (bitN L) (64 * x + z)) ∧ Has wr w.heap.size 24 (luC 25 L) ∧ Below w.heap.size w wr ∧ w.heap.size + 1 ≤ wr.heap.size) (fun _ _ i _ => 64 - (intOf i).toNat)
      case atStart => exact ⟨0, by omega, rfl, by rw [Nat.pow_zero, Nat.div_one], HR.out, HLA.out, HQ.out, HSZ.out⟩
      case round =>
        clear HR HLA HQ HSZ kl
        obtain ⟨z, hz, rfl, rfl, R, LA, Q, hsz⟩ := hrel
        by_cases hz6 : z < 64
        · have hzI : (z : Int) < 64 := by omega
          have hz0 : (0 : Int) ≤ (z : Int) := by omega
          obtain ⟨o3, cap3, rfl⟩ := row_form R
          have hlz : lx / 2 ^ z < 2 ^ 64 := Nat.lt_of_le_of_lt (Nat.div_le_self _ _) hl64
          have HS := Lib.hid (rowI_succ (bitN L) (64 * x + z))
          rw [HB.out z hz6] at HS
          have HN1 : Hid (lx / 2 ^ (z + 1) = lx / 2 ^ z / 2) := Lib.hid (by rw [Nat.pow_succ, ← Nat.div_div_eq_div_mul])
          generalize lx / 2 ^ z = n0 at *
          have e1 : ((n0 : Nat) : Int).tmod 2 = ((n0 % 2 : Nat) : Int) := by rw [Int.tmod_eq_emod_of_nonneg (by omega)]; omega
          have e2 : ((n0 : Nat) : Int).tdiv 2 = ((n0 / 2 : Nat) : Int) := by rw [Int.tdiv_eq_ediv_of_nonneg (by omega)]; omega
          have e3 : IntKind.u64.wrap ((n0 / 2 : Nat) : Int) = ((n0 / 2 : Nat) : Int) := by rw [IntKind.wrap_u64]; omega
          have hv1 : n0 % 2 ≤ 1 := by omega
          have hn1I' : n0 / 2 < 2 ^ 64 := by omega
          generalize n0 % 2 = b at *
          generalize n0 / 2 = n1 at *
          have hn1I : (n1 : Int) < 18446744073709551616 := by omega
          have hn0I : (n0 : Int) < 18446744073709551616 := by omega
          have hbI : (b : Int) ≤ 1 := by omega
          have HLT := Lib.hid (And.intro hx5 hz6)
          have HRow := Lib.hid R
          have HLA := Lib.hid LA
          have HQ := Lib.hid Q
          have HSZ := Lib.hid hsz
          obtain ⟨i0, hi, hz0', hz1, hz2⟩ := info_parts infoI
          clear R LA Q hsz hz hz6 hlz hv1
          generalize hK : 64 * x + z = K at *
          have HK := Lib.hid hK
          clear hK
          go_wp2_with (at_builtin; refine wpList_append_own _ rfl _ _ 39 rfl (w.heap.size + 1) 3 i0 (.int .i64 0) 1 8 Tryd.underlying39 hi hz0' hz1 hz2 rfl (by decide) _ _ _ rfl (HRow.out.alloc _) ⟨wr.heap.size, 0, none⟩ 1 1 [.int .i64 (b : Int)] rfl rfl (cell_one _ _ _) (by simp [Value.oneCell']) (by unfold maxLen; have := HLT.out; have := HK.out; omega) (by have := HLT.out; have := HK.out; omega) (by have := HSZ.out; simp; omega) ?_; intro v' w3 hown' hgrow hnil)
          clear hi hz0' hz1 hz2
          go_wp2_with fail
          go_roundw
          case rel =>
            have hne := fun (r : Nat) e => ((HRow.out.alloc (.cells #[.int .i64 (b : Int)] 3)).lt r e).1
            have h1 := HLT.out
            have h2 := HSZ.out
            have h3 := hgrow.size
            refine ⟨z + 1, by omega, by simp, by rw [HN1.out], ?_, (HLA.out.alloc _).kept hgrow (fun e => by have := hne _ e.symm; omega), (HQ.out.alloc HQ.out.size _).grown hgrow (by have := HQ.out.size; simp; omega) (fun j e => by have := hne j e; omega), by simp at h3; omega⟩
            rw [show 64 * x + (z + 1) = K + 1 by have := HK.out; omega, HS.out]
            exact hown'
          case measure => simp [intOf]; omega
        · obtain rfl : z = 64 := by omega
          simp only [Int.cast_ofNat_Int]
          have HR := Lib.hid R
          have HLA := Lib.hid LA
          have HQ := Lib.hid Q
          have HSZ := Lib.hid hsz
          clear R LA Q hsz
          go_wp2_with fail
          go_roundw
          case rel => exact ⟨x + 1, by omega, by simp, by rw [show 64 * (x + 1) = 64 * x + 64 by omega]; exact HR.out, HLA.out, HQ.out, HSZ.out⟩
          case measure => simp [intOf]; omega
    · obtain rfl : x = 25 := by omega
      simp only [Int.cast_ofNat_Int]
      rw [show 64 * 25 = 1600 from rfl] at R
      obtain ⟨h, c, rfl, hb, _, _, _, hR⟩ := owns_row (by omega) R
      have HR := Lib.hid (hR (bitN L) rfl)
      have HQ := Lib.hid Q
      clear R LA Q hR
      go_wp2_with fail
      go_ret
      exact ⟨_, _, rfl, by omega, HR.out, HQ.out⟩
end Go.Proofs.YtobdjakflknlcaaDoor
