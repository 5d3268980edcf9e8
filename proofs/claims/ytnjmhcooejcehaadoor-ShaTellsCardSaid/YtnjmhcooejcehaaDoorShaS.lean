/- The reference's first primes. -/
import Derived.Test.YtnjmhcooejcehaaDoorShaR
namespace Go.Proofs.YtnjmhcooejcehaaDoor
open Go Go.RowKit Go.Shelf
attribute [local go_sem] Oper.semAt_some Grows wide_fn

def prL : List Nat := [2, 3, 5, 7, 11, 13, 17, 19, 23, 29, 31, 37, 41, 43, 47, 53, 59, 61, 67, 71, 73, 79, 83, 89, 97, 101, 103, 107, 109, 113, 127, 131, 137, 139, 149, 151, 157, 163, 167, 173, 179, 181, 191, 193, 197, 199, 211, 223, 227, 229, 233, 239, 241, 251, 257, 263, 269, 271, 277, 281, 283, 293, 307, 311]
def pr (i : Nat) : Nat := prL.getD i 0
/-- How many of them are less than a number. -/
def cnt (n : Nat) : Nat := (prL.filter fun p => Nat.blt p n).length
def isK (n i : Nat) : Bool := (List.range i).all fun j => !(Nat.beq (n % pr j) 0)
theorem isK_succ (n i : Nat) : isK n (i + 1) = (isK n i && !(Nat.beq (n % pr i) 0)) := by
  unfold isK
  rw [List.range_succ, List.all_append]
  simp
set_option maxRecDepth 100000 in
theorem cnt_step : ∀ n : Fin 312, (n.val < 2 ∨ ((isK n.val (cnt n.val) = true ∧ cnt (n.val + 1) = cnt n.val + 1 ∧ pr (cnt n.val) = n.val) ∨ (isK n.val (cnt n.val) = false ∧ cnt (n.val + 1) = cnt n.val))) := by decide +kernel
theorem pr_pos : ∀ i : Fin 64, 2 ≤ pr i.val ∧ pr i.val < 312 := by decide
theorem cnt_end : cnt 312 = 64 := by decide +kernel
theorem cnt_start : cnt 2 = 0 := by decide

set_option maxRecDepth 100000 in
set_option maxHeartbeats 8000000 in
theorem primes_any (M : Nat) (hM0 : 0 < M) (hM : M ≤ 64) (w : World) :
    Calls Tryd.prog 32 #[.int .i64 (M : Int)] w fun e w' => ∃ h c, e = .returned (.slice (some ⟨h, 0, none⟩) M c) ∧ w.heap.size ≤ h ∧ RowAt w' h M pr ∧ Below w.heap.size w w' := by
  have RN : w.ownsRow w.heap.size 3 1 (.slice none 0 0) 0 (rowI pr 0) := World.ownsRow_nil _ _ 3 1
  rw [← cnt_start] at RN
  have RN : w.ownsRow w.heap.size 3 1 (.slice none 0 0) (cnt 2) (rowI pr (cnt 2)) := RN
  have hMI : (M : Int) ≤ 64 := by omega
  go_enter Tryd.func32, Tryd.ntmps32
  go_wp2_with fail
  go_loopw [3, 4] (fun t i wr => ∃ n : Nat, 2 ≤ n ∧ n ≤ 312 ∧ i = .int .i64 (n : Int) ∧ cnt n ≤ M ∧ wr.ownsRow w.heap.size 3 1 t (cnt n) (rowI pr (cnt n)) ∧ Below w.heap.size w wr) (fun _ i _ => 312 - (intOf i).toNat)
  case atStart => exact ⟨2, by omega, by omega, rfl, by rw [cnt_start]; omega, RN, Below.refl _ w⟩
  case round =>
    clear RN
    obtain ⟨n, hn2, hn3, rfl, hcM, R, Q⟩ := hrel
    obtain ⟨o3, cap3, rfl⟩ := row_form R
    by_cases hlt : cnt n < M
    · have hn : n < 312 := by
        rcases Nat.lt_or_ge n 312 with h | h
        · exact h
        · obtain rfl : n = 312 := by omega
          rw [cnt_end] at hlt
          omega
      have hst : (isK n (cnt n) = true ∧ cnt (n + 1) = cnt n + 1 ∧ pr (cnt n) = n) ∨ (isK n (cnt n) = false ∧ cnt (n + 1) = cnt n) := (cnt_step ⟨n, hn⟩).resolve_left (by show ¬ n < 2; omega)
      have hnI : (n : Int) < 312 := by omega
      have hn0 : (2 : Int) ≤ (n : Int) := by omega
      have HST := Lib.hid hst
      have HLT := Lib.hid (And.intro hn2 (And.intro hn (And.intro hlt hM)))
      clear hst hn2 hn3 hcM hn
      generalize hL : cnt n = L at *
      have HCL := Lib.hid hL
      have hLI : (L : Int) < (M : Int) := by omega
      have hL0 : (0 : Int) ≤ (L : Int) := by omega
      clear hL hlt
      go_wp2_with fail
      go_loopw [5, 6] (fun b i wr => ∃ k : Nat, k ≤ L ∧ i = .int .i64 (k : Int) ∧ b = .bool (isK n k) ∧ wr.ownsRow w.heap.size 3 1 (.slice o3 L cap3) L (rowI pr L) ∧ Below w.heap.size w wr) (fun _ i _ => L - (intOf i).toNat)
      case atStart => exact ⟨0, by omega, rfl, rfl, R, Q⟩
      case round =>
        clear R Q
        obtain ⟨k, hk, rfl, rfl, R, Q⟩ := hrel
        by_cases hkl : k < L
        · have hkI : (k : Int) < (L : Int) := by omega
          have hk0 : (0 : Int) ≤ (k : Int) := by omega
          obtain ⟨g, c, hv, _, _, _, _, hR⟩ := owns_row (by omega) R
          obtain ⟨rfl, rfl⟩ : o3 = some ⟨g, 0, none⟩ ∧ cap3 = c := by
            injection hv with h1 _ h3
            exact ⟨h1, h3⟩
          have kp := (hR pr rfl).cellsAt k hkl
          have hpp : 2 ≤ pr k ∧ pr k < 312 := pr_pos ⟨k, by have := HLT.out; omega⟩
          have hss := isK_succ n k
          have em : (n : Int).tmod ((pr k : Nat) : Int) = ((n % pr k : Nat) : Int) := by rw [Int.tmod_eq_emod_of_nonneg (by omega)]; rfl
          have HR := Lib.hid R
          have HQ := Lib.hid Q
          have HKL := Lib.hid hkl
          clear R Q hR hk hkl hv
          cases hb : isK n k with
          | false =>
            rw [hb, Bool.false_and] at hss
            have H36 := Lib.hid hss
            clear hss em hpp
            go_wp2_with fail
            go_roundw
            case rel => exact ⟨k + 1, by have := HKL.out; omega, by simp, by rw [H36.out], HR.out, HQ.out⟩
            case measure => have := HKL.out; simp [intOf]; omega
          | true =>
            rw [hb, Bool.true_and] at hss
            generalize hp : pr k = p at *
            have hp0 : (p : Int) ≠ 0 := by omega
            have hpI : (p : Int) < 312 := by omega
            have hp2 : (2 : Int) ≤ (p : Int) := by omega
            have hr : n % p < 312 := Nat.lt_of_lt_of_le (Nat.mod_lt _ (by omega)) (by omega)
            generalize n % p = r at *
            by_cases hr0 : r = 0
            · subst hr0
              have H36 : Hid (isK n (k + 1) = false) := Lib.hid hss
              clear hss hp hpp
              simp only [Int.cast_ofNat_Int] at em
              go_wp2_with fail
              go_roundw
              case rel => exact ⟨k + 1, by have := HKL.out; omega, by simp, by rw [H36.out], HR.out, HQ.out⟩
              case measure => have := HKL.out; simp [intOf]; omega
            · have H36 : Hid (isK n (k + 1) = true) := Lib.hid (by rw [hss]; cases r with | zero => exact (hr0 rfl).elim | succ r => rfl)
              have hr0I : (r : Int) ≠ 0 := by omega
              clear hss hp hpp
              go_wp2_with fail
              go_roundw
              case rel => exact ⟨k + 1, by have := HKL.out; omega, by simp, by rw [H36.out]; first | rfl | rw [bne_iff_ne.2 hr0I], HR.out, HQ.out⟩
              case measure => have := HKL.out; simp [intOf]; omega
        · obtain rfl : k = L := by omega
          have HRow := Lib.hid R
          have HQ := Lib.hid Q
          clear R Q hk hkl
          rcases HST.out with ⟨hb, hc1, hpn⟩ | ⟨hb, hc1⟩
          · have HC1 := Lib.hid (And.intro hc1 hpn)
            have HS := Lib.hid (rowI_succ pr k)
            obtain ⟨i0, hi, hz0', hz1, hz2⟩ := info_parts infoI
            clear hc1 hpn HST
            rw [hb]
            go_wp2_with (at_builtin; refine wpList_append_own _ rfl _ _ 36 rfl w.heap.size 3 i0 (.int .i64 0) 1 8 Tryd.underlying36 hi hz0' hz1 hz2 rfl (by decide) _ _ _ rfl (HRow.out.alloc _) ⟨wr.heap.size, 0, none⟩ 1 1 [.int .i64 (n : Int)] rfl rfl (cell_one _ _ _) (by simp [Value.oneCell']) (by unfold maxLen; have := HLT.out; omega) (by have := HLT.out; omega) (by have := HQ.out.size; simp; omega) ?_; intro v' w3 hown' hgrow hnil)
            clear hi hz0' hz1 hz2
            go_wp2_with fail
            go_roundw
            case rel =>
              have hne := fun (r : Nat) e => ((HRow.out.alloc (.cells #[.int .i64 (n : Int)] 3)).lt r e).1
              have h1 := HLT.out
              refine ⟨n + 1, by omega, by omega, by simp, by rw [HC1.out.1]; omega, ?_, (HQ.out.alloc HQ.out.size _).grown hgrow (by have := HQ.out.size; simp; omega) (fun j e => by have := hne j e; omega)⟩
              rw [HC1.out.1, HS.out, HC1.out.2]
              exact hown'
            case measure => simp [intOf]; omega
          · have HC1 := Lib.hid hc1
            clear hc1 HST
            rw [hb]
            go_wp2_with fail
            go_roundw
            case rel =>
              have h1 := HLT.out
              exact ⟨n + 1, by omega, by omega, by simp, by rw [HC1.out]; omega, by rw [HC1.out]; exact HRow.out, HQ.out⟩
            case measure => simp [intOf]; omega
    · have hM2 : cnt n = M := by omega
      rw [hM2] at R
      obtain ⟨h, c, hv, hb, _, _, _, hR⟩ := owns_row (by omega) R
      have HR := Lib.hid (hR pr rfl)
      have HQ := Lib.hid Q
      have HB := Lib.hid hb
      rw [hM2]
      clear R Q hR hcM hlt hn3
      injection hv with h1 _ h3
      subst h1 h3
      go_wp2_with fail
      go_ret
      first | exact ⟨_, _, rfl, HB.out, HR.out, HQ.out⟩ | exact ⟨_, ⟨_, rfl⟩, HB.out, HR.out, HQ.out⟩
end Go.Proofs.YtnjmhcooejcehaaDoor
