/- The document's own word of a text. For every text that is not beyond the model's reach. -/
import Derived.Test.YtgejdkiehcpinaaDoorRefF
namespace Go.Proofs.YtgejdkiehcpinaaDoor
open Go Go.RowKit Go.Shelf
attribute [local go_sem] Oper.semAt_some Grows wide_fn

/-! ### One digit -/
set_option maxHeartbeats 1000000 in
theorem digit_any (n b : Int) (h0 : 0 ≤ n) (h1 : n < 256) (hb : b = 10 ∨ b = 16) : Ret Tryd.prog 50 #[.int .u8 n, .int .i64 b] (.int .i64 (if 48 ≤ n ∧ n ≤ 57 then n - 48 else if 97 ≤ n ∧ n ≤ 102 ∧ b = 16 then n - 87 else -1)) := by
  refine Ret.of_same fun w => ?_
  by_cases c1 : 48 ≤ n
  · by_cases c2 : n ≤ 57
    · rw [if_pos ⟨c1, c2⟩]
      have z1 : ¬ 97 ≤ n := by omega
      have z2 : n < 97 := by omega
      clear hb
      go_enter Tryd.func50, Tryd.ntmps50
      go_wp2
      go_ret
      exact ⟨rfl, rfl⟩
    · rw [if_neg (by omega)]
      by_cases c3 : 97 ≤ n
      · by_cases c4 : n ≤ 102
        · rcases hb with rfl | rfl
          · rw [if_neg (by omega)]
            go_enter Tryd.func50, Tryd.ntmps50
            go_wp2
            go_ret
            exact ⟨rfl, rfl⟩
          · rw [if_pos ⟨c3, c4, rfl⟩]
            have e : n - 97 + 10 = n - 87 := by omega
            go_enter Tryd.func50, Tryd.ntmps50
            go_wp2
            go_ret
            exact ⟨by simp [e], rfl⟩
        · rw [if_neg (by omega)]
          clear hb
          go_enter Tryd.func50, Tryd.ntmps50
          go_wp2
          go_ret
          exact ⟨rfl, rfl⟩
      · rw [if_neg (by omega)]
        clear hb
        go_enter Tryd.func50, Tryd.ntmps50
        go_wp2
        go_ret
        exact ⟨rfl, rfl⟩
  · rw [if_neg (by omega), if_neg (by omega)]
    have z1 : ¬ 97 ≤ n := by omega
    clear hb
    go_enter Tryd.func50, Tryd.ntmps50
    go_wp2
    go_ret
    exact ⟨rfl, rfl⟩
/-- A digit's number; below 0: it is none. -/
def dV (K : Kind) (c : UInt8) : Int := match K.dig c with | some v => (v : Int) | none => -1
theorem digit_dec (c : UInt8) : Ret Tryd.prog 50 #[.int .u8 (c.toNat : Int), .int .i64 10] (.int .i64 (dV decK c)) := by
  have h := digit_any (c.toNat : Int) 10 (by omega) (by have := c.toNat_lt; omega) (.inl rfl)
  have e : dV decK c = if 48 ≤ (c.toNat : Int) ∧ (c.toNat : Int) ≤ 57 then (c.toNat : Int) - 48 else if 97 ≤ (c.toNat : Int) ∧ (c.toNat : Int) ≤ 102 ∧ (10 : Int) = 16 then (c.toNat : Int) - 87 else -1 := by
    show (match decD c with | some v => (v : Int) | none => -1) = _
    unfold decD
    by_cases h1 : 48 ≤ c.toNat ∧ c.toNat ≤ 57
    · rw [if_pos h1, if_pos (by omega)]
      show ((c.toNat - 48 : Nat) : Int) = _
      omega
    · rw [if_neg h1, if_neg (by omega), if_neg (by omega)]
  rw [e]
  exact h
theorem digit_hex (c : UInt8) : Ret Tryd.prog 50 #[.int .u8 (c.toNat : Int), .int .i64 16] (.int .i64 (dV hexK c)) := by
  have h := digit_any (c.toNat : Int) 16 (by omega) (by have := c.toNat_lt; omega) (.inr rfl)
  have e : dV hexK c = if 48 ≤ (c.toNat : Int) ∧ (c.toNat : Int) ≤ 57 then (c.toNat : Int) - 48 else if 97 ≤ (c.toNat : Int) ∧ (c.toNat : Int) ≤ 102 ∧ (16 : Int) = 16 then (c.toNat : Int) - 87 else -1 := by
    show (match hexD c with | some v => (v : Int) | none => -1) = _
    unfold hexD
    by_cases h1 : 48 ≤ c.toNat ∧ c.toNat ≤ 57
    · rw [if_pos h1, if_pos (by omega)]
      show ((c.toNat - 48 : Nat) : Int) = _
      omega
    · rw [if_neg h1, if_neg (show ¬ (48 ≤ (c.toNat : Int) ∧ (c.toNat : Int) ≤ 57) by omega)]
      by_cases h2 : 97 ≤ c.toNat ∧ c.toNat ≤ 102
      · rw [if_pos h2, if_pos (by omega)]
        show ((c.toNat - 97 + 10 : Nat) : Int) = _
        omega
      · rw [if_neg h2, if_neg (by omega)]
  rw [e]
  exact h

/-! ### Numbers of forty digits -/
theorem valI_ge (d : Nat → Int) (h : ∀ j, 0 ≤ d j) : ∀ n, 0 ≤ valI d n ∧ ∀ j, j < n → d j * 256 ^ j ≤ valI d n
  | 0 => ⟨Int.le_refl 0, fun j hj => by omega⟩
  | n + 1 => by
    obtain ⟨h1, h2⟩ := valI_ge d h n
    have h3 : 0 ≤ d n * 256 ^ n := Int.mul_nonneg (h n) (Int.le_of_lt (Int.pow_pos (by decide)))
    rw [valI]
    refine ⟨by omega, fun j hj => ?_⟩
    by_cases e : j = n
    · subst e; omega
    · have := h2 j (by omega); omega
/-- What goes into the places when a text's number is multiplied, and a digit is added. -/
def muD (z : Nat → Int) (B v : Int) (j : Nat) : Int := z j * B + if j = 0 then v else 0
theorem muD_val (z : Nat → Int) (B v : Int) : ∀ n, valI (muD z B v) (n + 1) = valI z (n + 1) * B + v
  | 0 => by simp [valI, muD]
  | n + 1 => by
    have e : muD z B v (n + 1) = z (n + 1) * B := by unfold muD; rw [if_neg (by omega), Int.add_zero]
    rw [valI, muD_val z B v n, valI.eq_2 z (n + 1), e, Int.add_mul (valI z (n + 1)), Int.mul_assoc (z (n + 1)) (256 ^ (n + 1)) B, Int.mul_comm (256 ^ (n + 1)) B, ← Int.mul_assoc]
    omega
/-- What is carried into place k. -/
def muC (z : Nat → Int) (B v : Int) (k : Nat) : Int := if k = 0 then v else cyD (muD z B v) k
theorem muC_step (z : Nat → Int) (B v : Int) (k : Nat) : muC z B v (k + 1) = (muC z B v k + z k * B) / 256 ∧ rD (muD z B v) k = (muC z B v k + z k * B) % 256 := by
  have e : muD z B v k + cyD (muD z B v) k = muC z B v k + z k * B := by
    unfold muC muD
    by_cases h : k = 0
    · subst h; simp [cyD]; omega
    · rw [if_neg h, if_neg h]; omega
  constructor
  · show (if k + 1 = 0 then v else cyD (muD z B v) (k + 1)) = _
    rw [if_neg (by omega)]
    show (muD z B v k + cyD (muD z B v) k) / 256 = _
    rw [e]
  · show (muD z B v k + cyD (muD z B v) k) % 256 = _
    rw [e]
theorem muC_bound (z : Nat → Int) (B v : Int) (hz : ∀ j, 0 ≤ z j ∧ z j < 256) (hB : 0 ≤ B ∧ B ≤ 16) (hv : 0 ≤ v ∧ v < 16) : ∀ k, 0 ≤ muC z B v k ∧ muC z B v k ≤ 16 ∧ 0 ≤ z k * B ∧ z k * B ≤ 4080
  | 0 => by
    have h1 := hz 0
    have h2 : z 0 * B ≤ 255 * 16 := Int.mul_le_mul (by omega) hB.2 hB.1 (by omega)
    have h3 : 0 ≤ z 0 * B := Int.mul_nonneg h1.1 hB.1
    unfold muC
    rw [if_pos rfl]
    refine ⟨by omega, by omega, h3, by omega⟩
  | k + 1 => by
    have h1 := hz (k + 1)
    have h2 : z (k + 1) * B ≤ 255 * 16 := Int.mul_le_mul (by omega) hB.2 hB.1 (by omega)
    have h3 : 0 ≤ z (k + 1) * B := Int.mul_nonneg h1.1 hB.1
    obtain ⟨g1, g2, g3, g4⟩ := muC_bound z B v hz hB hv k
    rw [(muC_step z B v k).1]
    refine ⟨by omega, by omega, h3, by omega⟩
theorem p40 : (256 : Int) ^ 40 = 2135987035920910082395021706169552114602704522356652769947041607822219725780640550022962086936576 := by decide
theorem mul_digit (z : Nat → Int) (B v : Int) (m m' : Nat) (hz : ∀ j, 0 ≤ z j ∧ z j < 256) (hB : 0 ≤ B ∧ B ≤ 16) (hv : 0 ≤ v ∧ v < 16) (hm : valI z 40 = (m : Int)) (he : (m' : Int) = m * B + v)
    (hm' : m' < 2135987035920910082395021706169552114602704522356652769947041607822219725780640550022962086936576) : valI (rD (muD z B v)) 40 = (m' : Int) := by
  have h1 := carry_sum (muD z B v) 40
  have h2 := muD_val z B v 39
  have h3 := (valI_bound (rD (muD z B v)) (rD_range _) 40).1
  have h4 := (muC_bound z B v hz hB hv 40).1
  unfold muC at h4
  rw [if_neg (by omega)] at h4
  rw [show 39 + 1 = 40 from rfl, hm, ← he] at h2
  rw [h2, p40] at h1
  generalize cyD (muD z B v) 40 = c at *
  generalize valI (rD (muD z B v)) 40 = x at *
  omega

/-! ### What Parse tells -/
def tailP (K : Kind) (d : List UInt8) : Value := if d = [] ∨ 78 < d.length ∨ (d.head? = some 48 ∧ 1 < d.length) then errV else wordIf (numFrom K 0 d)
theorem numFrom_ge (K : Kind) (hK : ∀ c, K.dig c = some 0 → c = 48) : ∀ (l : List UInt8) (m : Nat), numFrom K 0 l = some m → l ≠ [] → l.head? ≠ some 48 → K.base ^ (l.length - 1) ≤ m
  | [], _, _, h, _ => absurd rfl h
  | c :: r, m, h, _, h3 => by
    simp only [numFrom] at h
    cases hd : K.dig c with
    | none => rw [hd] at h; cases h
    | some v =>
      rw [hd] at h
      have hv : v ≠ 0 := fun e => by subst e; exact h3 (by rw [hK c hd]; rfl)
      simp only [] at h
      rw [numFrom_zero] at h
      cases hr : numFrom K 0 r with
      | none => rw [hr] at h; cases h
      | some k =>
        rw [hr] at h
        simp only [Option.map_some, Option.some.injEq, Nat.zero_mul, Nat.zero_add] at h
        simp only [List.length_cons, Nat.add_sub_cancel]
        have h5 : 1 * K.base ^ r.length ≤ v * K.base ^ r.length := Nat.mul_le_mul_right _ (by omega)
        omega
theorem dec_nought (c : UInt8) (h : decK.dig c = some 0) : c = 48 := by
  have : decD c = some 0 := h
  unfold decD at this
  split at this
  · simp only [Option.some.injEq] at this
    exact UInt8.toNat_inj.1 (by show _ = 48; omega)
  · cases this
theorem hex_nought (c : UInt8) (h : hexK.dig c = some 0) : c = 48 := by
  have : hexD c = some 0 := h
  unfold hexD at this
  split at this
  · simp only [Option.some.injEq] at this
    exact UInt8.toNat_inj.1 (by show _ = 48; omega)
  · split at this
    · simp only [Option.some.injEq] at this; omega
    · cases this
theorem tail_long (K : Kind) (hK : ∀ c, K.dig c = some 0 → c = 48) (hb : 10 ≤ K.base) (d : List UInt8) : (if badDigits d then errV else wordIf (numFrom K 0 d)) = tailP K d := by
  unfold tailP
  by_cases h : badDigits d
  · rw [if_pos h]
    rcases h with h | ⟨h1, h2⟩
    · rw [if_pos (.inl h)]
    · have h4 : 1 < d.length := by
        cases d with
        | nil => cases h1
        | cons c r =>
          cases r with
          | nil =>
            have h3 : c = 48 := by simpa using h1
            exact absurd (by rw [h3]) h2
          | cons a t => simp
      rw [if_pos (.inr (.inr ⟨h1, h4⟩))]
  · rw [if_neg h]
    have hne : d ≠ [] := fun e => h (.inl e)
    have hhd : d.head? = some 48 → d = [48] := fun e => Classical.byContradiction fun e2 => h (.inr ⟨e, e2⟩)
    by_cases hl : 78 < d.length
    · rw [if_pos (.inr (.inl hl))]
      cases hn : numFrom K 0 d with
      | none => rfl
      | some m =>
        have h1 := numFrom_ge K hK d m hn hne (fun e => by rw [hhd e] at hl; simp at hl)
        have h2 : 10 ^ 78 ≤ K.base ^ 78 := Nat.pow_le_pow_left hb 78
        have h3 : K.base ^ 78 ≤ K.base ^ (d.length - 1) := Nat.pow_le_pow_right (by omega) (by omega)
        have h4 : (115792089237316195423570985008687907853269984665640564039457584007913129639936 : Nat) ≤ 10 ^ 78 := by decide
        unfold wordIf
        exact if_neg (by omega)
    · rw [if_neg]
      rintro (e | e | ⟨e1, e2⟩)
      · exact hne e
      · exact hl e
      · rw [hhd e1] at e2; simp at e2
theorem parse_hexP (s : ByteArray) (h1 : 2 < s.size) (h2 : s.extract 0 2 = hexPre) : parseV s.data.toList = tailP hexK (s.extract 2 s.size).data.toList := by
  have hx := (isHex_iff s).2 ⟨by omega, h2⟩
  have hl : s.data.toList.length = s.size := by simp
  have e : (s.extract 2 s.size).data.toList = restOf s.data.toList := by
    rw [extract_list, List.take_of_length_le (by rw [List.length_drop, hl]; omega)]; unfold restOf; rw [if_pos hx]
  rw [e, ← tail_long hexK hex_nought (by decide)]
  unfold parseV
  rw [hx]
  rfl
theorem parse_decP (s : ByteArray) (h : ¬ (2 < s.size ∧ s.extract 0 2 = hexPre)) : parseV s.data.toList = tailP decK s.data.toList := by
  have hl : s.data.toList.length = s.size := by simp
  by_cases hx : isHex s.data.toList = true
  · obtain ⟨h1, h2⟩ := (isHex_iff s).1 hx
    have hs : s.size = 2 := by
      have : ¬ 2 < s.size := fun e => h ⟨e, h2⟩
      omega
    have e : restOf s.data.toList = [] := by
      unfold restOf
      rw [if_pos hx]
      exact List.eq_nil_of_length_eq_zero (by rw [List.length_drop]; omega)
    have h48 : s.data.toList.head? = some 48 := by
      unfold isHex at hx
      split at hx
      · rename_i e; rw [e]; rfl
      · cases hx
    unfold parseV tailP
    rw [e, if_pos (.inl rfl), if_pos (.inr (.inr ⟨h48, by omega⟩))]
  · have hx' : isHex s.data.toList = false := by simpa using hx
    have e : restOf s.data.toList = s.data.toList := by unfold restOf; rw [hx']; rfl
    rw [← tail_long decK dec_nought (by decide)]
    unfold parseV
    rw [e, hx']
    rfl
theorem zero40 (W : World) : IntsAt (W.alloc (.cells (madeCells #[.int .i64 0] 40) 3)) W.heap.size 40 (fun _ => 0) := zero_ints W 40
theorem run_mk40 (W : World) : (Instr.makeSlice 50 (.int .i64 40) (.int .i64 40)).run Tryd.prog W = .ok (.slice (some ⟨W.heap.size, 0, none⟩) 40 40) (W.alloc (.cells (madeCells #[.int .i64 0] 40) 3)) := by
  obtain ⟨i0, hi, hz0, hz1, hz2⟩ := info_parts infoI
  have h := run_make (P := Tryd.prog) W 50 3 i0 (.int .i64 0) Tryd.underlying50 hi hz0 .i64 .i64 40 40 (by decide) (by decide) (by rw [hz2]; decide) (by decide)
  rw [hz1] at h
  exact h
def cut40 (d : Nat → Int) (j : Nat) : Int := if j < 40 then d j else 0
theorem cut40_range (d : Nat → Int) (h : ∀ j, 0 ≤ d j ∧ d j < 256) (j : Nat) : 0 ≤ cut40 d j ∧ cut40 d j < 256 := by
  unfold cut40
  split
  · exact h j
  · constructor <;> omega
/-- Forty digits of which the last eight are none are a word's. -/
theorem forty_low (z : Nat → Int) (m : Nat) (h : valI z 40 = (m : Int)) (hz : ∀ j, 0 ≤ z j ∧ z j < 256) (h0 : ∀ j, 32 ≤ j → j < 40 → z j = 0) : (valI (cut40 z) 32).toNat = m ∧ W256 m := by
  have e1 := valI_add z 32 8
  have e2 : valI (fun j => z (32 + j)) 8 = 0 := by
    rw [valI_congr _ (fun _ => 0) 8 (fun j hj => h0 (32 + j) (by omega) (by omega)), valI_zero]
  rw [e2, Int.zero_mul, Int.add_zero, show 32 + 8 = 40 from rfl, h] at e1
  have e3 : valI (cut40 z) 32 = valI z 32 := valI_congr _ _ 32 (fun j hj => if_pos (by omega))
  have e4 := (valI_bound z hz 32).2
  rw [p256] at e4
  rw [e3, ← e1]
  unfold W256
  exact ⟨by omega, by omega⟩
theorem forty_high (z : Nat → Int) (m k : Nat) (h : valI z 40 = (m : Int)) (hz : ∀ j, 0 ≤ z j ∧ z j < 256) (h1 : 32 ≤ k) (h2 : k < 40) (h0 : z k ≠ 0) : ¬ m < 115792089237316195423570985008687907853269984665640564039457584007913129639936 := by
  have e1 := (valI_ge z (fun j => (hz j).1) 40).2 k h2
  have e2 : (256 : Int) ^ 32 ≤ 256 ^ k := pow_le256 h1
  have e3 := (hz k).1
  have e4 : 1 * (256 : Int) ^ k ≤ z k * 256 ^ k := Int.mul_le_mul_of_nonneg_right (by omega) (Int.le_of_lt (Int.pow_pos (by decide)))
  rw [p256] at e2
  omega

set_option maxRecDepth 100000 in
set_option maxHeartbeats 8000000 in
theorem refParse_ret (s : ByteArray) (hs : s.size ≤ 140737488355328) : Ret Tryd.prog 29 #[.string s] (parseV s.data.toList) := by
  intro w
  have A0 := Arr4.mk0' w 24
  have hmk := run_mk40
  by_cases hh : 2 < s.size ∧ s.extract 0 2 = hexPre
  case pos =>
    rw [parse_hexP s hh.1 hh.2]
    have z1 : (2 : Int) < (s.size : Int) := by omega
    have z2 : (2 : Int) ≤ (s.size : Int) := by omega
    have z3 : (0 : Int) ≤ (s.size : Int) := by omega
    have he' : ((s.extract 0 2).toList == [48, 120]) = true := by rw [hh.2, ByteArray.toList_eq]; rfl
    have he2 : s.extract 0 2 = ⟨#[48, 120]⟩ := hh.2
    have hDs : (s.extract 2 s.size).size ≤ 140737488355328 := by rw [ByteArray.size_extract]; omega
    have HDIG := Lib.hid digit_hex
    have hK : hexK.base = 16 := rfl
    have HKB : Hid (∀ c v, hexK.dig c = some v → v < 16) := fun c v h => hexK.lt c v h
    clear hh hs
    generalize hD : s.extract 2 s.size = D at *
    have hl : D.data.toList.length = D.size := by simp
    by_cases h0 : D.size = 0
    · have hnil : D.data.toList = [] := List.eq_nil_of_length_eq_zero (by rw [hl]; exact h0)
      have HV : Hid (tailP hexK D.data.toList = errV) := by show _ = _; unfold tailP; rw [if_pos (.inl hnil)]
      have e1 : D.toList = [] := by rw [ByteArray.toList_eq]; exact hnil
      have e2 : D.toList.isEmpty = true := by rw [e1]; rfl
      clear hl h0 hnil HDIG hK HKB hmk
      go_enter Tryd.func29, Tryd.ntmps29
      go_wp2
      refine bodyPost_ret (results_wordE rfl rfl (m := fun _ => 0) A0) rfl ⟨by rw [HV.out]; rfl, (Below.refl _ _).alloc (Nat.le_refl _) _⟩
    · have hpos : 0 < D.size := by omega
      have hposI : (0 : Int) < (D.size : Int) := by omega
      have hne : D.data.toList ≠ [] := fun e => by rw [e] at hl; simp at hl; omega
      have en : ¬ D.toList = [] := by rw [ByteArray.toList_eq]; exact hne
      have en2 : D.toList.isEmpty = false := by rw [ByteArray.toList_eq]; cases hx : D.data.toList with
        | nil => exact absurd hx hne
        | cons c r => rfl
      have hhd : D.data.toList.head? = some D[0] := by rw [List.head?_eq_getElem?, List.getElem?_eq_getElem (by omega)]; rfl
      by_cases h78 : 78 < D.size
      · have HV : Hid (tailP hexK D.data.toList = errV) := by show _ = _; unfold tailP; rw [if_pos (.inr (.inl (by omega)))]
        have y1 : (78 : Int) < (D.size : Int) := by omega
        clear hl h0 HDIG hK HKB hmk hhd hne h78
        go_enter Tryd.func29, Tryd.ntmps29
        go_wp2
        refine bodyPost_ret (results_wordE rfl rfl (m := fun _ => 0) A0) rfl ⟨by rw [HV.out]; rfl, (Below.refl _ _).alloc (Nat.le_refl _) _⟩
      · have y1 : ¬ (78 : Int) < (D.size : Int) := by omega
        have y2 : (D.size : Int) ≤ 78 := by omega
        by_cases h48 : D[0] = 48 ∧ 1 < D.size
        · have HV : Hid (tailP hexK D.data.toList = errV) := by show _ = _; unfold tailP; rw [if_pos (.inr (.inr ⟨by rw [hhd, h48.1], by omega⟩))]
          have e4 : ((D[0].toNat : Int) == 48) = true := by rw [h48.1]; rfl
          have y3 : (1 : Int) < (D.size : Int) := by omega
          have e5 : (D[0].toNat : Int) = 48 := by rw [h48.1]; rfl
          clear hl h0 HDIG hK HKB hmk hhd hne h78 h48
          go_enter Tryd.func29, Tryd.ntmps29
          go_wp2
          refine bodyPost_ret (results_wordE rfl rfl (m := fun _ => 0) A0) rfl ⟨by rw [HV.out]; rfl, (Below.refl _ _).alloc (Nat.le_refl _) _⟩
        · have HV : Hid (tailP hexK D.data.toList = wordIf (numFrom hexK 0 D.data.toList)) := by
            show _ = _
            unfold tailP
            rw [if_neg]
            rintro (e | e | ⟨e, e2⟩)
            · exact hne e
            · omega
            · exact h48 ⟨by rw [hhd] at e; exact Option.some.inj e, by omega⟩
          have htest : (¬ (1 : Int) < (D.size : Int) ∧ (D[0].toNat : Int) = 48) ∨ ((D[0].toNat : Int) == 48) = false := by
            by_cases h3 : D[0] = 48
            · left
              exact ⟨fun e => h48 ⟨h3, by omega⟩, by rw [h3]; rfl⟩
            · right
              rw [beq_eq_false_iff_ne]
              intro e
              exact h3 (UInt8.toNat_inj.1 (by show _ = 48; omega))
          have A1 := A0.alloc (.cells (madeCells #[.int .i64 0] 40) 3)
          have X0 := zero40 (w.alloc (.cells #[.int .u64 0, .int .u64 0, .int .u64 0, .int .u64 0] 24))
          have B0 := ((Below.refl _ w).alloc (Nat.le_refl _) (.cells #[.int .u64 0, .int .u64 0, .int .u64 0, .int .u64 0] 24)).alloc (by simp) (.cells (madeCells #[.int .i64 0] 40) 3)
          rw [World.size_alloc] at X0
          have hsz78 : D.size ≤ 78 := by omega
          have HL := Lib.hid hl
          have HS := Lib.hid hsz78
          clear hl h0 hhd hne h78 h48 A0 hsz78
          rcases htest with ⟨e4, e5⟩ | e4
          all_goals (try (exfalso; omega))
          all_goals
            go_enter Tryd.func29, Tryd.ntmps29
            go_wp2
            obtain ⟨W0, hW0⟩ : ∃ W0, (w.alloc (.cells #[.int .u64 0, .int .u64 0, .int .u64 0, .int .u64 0] 24)).alloc (.cells (madeCells #[.int .i64 0] 40) 3) = W0 := ⟨_, rfl⟩
            rw [hW0] at A1 X0 B0 ⊢
            clear hW0 hmk
            go_loopw [7] (fun q wr => ∃ (i m : Nat) (z : Nat → Int), i ≤ D.size ∧ q = .int .i64 (i : Int) ∧ numFrom hexK 0 (D.data.toList.take i) = some m ∧ valI z 40 = (m : Int) ∧ (∀ j, 0 ≤ z j ∧ z j < 256) ∧ IntsAt wr (w.heap.size + 1) 40 z ∧ Arr4 wr w.heap.size 24 (fun _ => 0) ∧ Below w.heap.size w wr) (fun q _ => D.size - (intOf q).toNat)
            case atStart => exact ⟨0, 0, _, by omega, rfl, rfl, valI_zero 40, fun _ => ⟨by omega, by omega⟩, X0, A1, B0⟩
            case round =>
              obtain ⟨i, m, z, hi, rfl, hnum, hval, hz, xx, aa, hB⟩ := hrel
              clear A1 X0 B0
              by_cases hlt : i < D.size
              · have hiI : (i : Int) < (D.size : Int) := by omega
                have hi0 : (0 : Int) ≤ (i : Int) := by omega
                have hsn := numFrom_snoc hexK (D.data.toList.take i) D[i]
                rw [← take_snoc D i hlt, hnum] at hsn
                have hdg := HDIG.out D[i]
                have hkb := HKB.out D[i]
                cases hd : hexK.dig D[i] with
                | none =>
                  have hdv : dV hexK D[i] = -1 := by unfold dV; rw [hd]
                  rw [hdv] at hdg
                  have HE : Hid (wordIf (numFrom hexK 0 D.data.toList) = errV) := by
                    show _ = _
                    rw [numFrom_bad hexK D i hlt hd]
                    rfl
                  have hx := Lib.hid xx
                  clear hi hnum hval hz hsn hkb hd hdv xx
                  go_wp2_with fail
                  refine (hdg _).mono ?_
                  rintro e w5 ⟨rfl, q⟩
                  have aa := aa.later' q
                  have hB := hB.trans (q.mono hB.size)
                  have f0 := aa.frozen 0
                  have f1 := aa.frozen 1
                  have f2 := aa.frozen 2
                  have f3 := aa.frozen 3
                  have d0 := aa.cell (j := 0) (by omega)
                  have d1 := aa.cell (j := 1) (by omega)
                  have d2 := aa.cell (j := 2) (by omega)
                  have d3 := aa.cell (j := 3) (by omega)
                  have HA := Lib.hid aa
                  have HB := Lib.hid hB
                  clear q aa hB hdg
                  go_wp2
                  refine bodyPost_ret (results_wordE rfl rfl (HA.out.store (fun _ => 0))) rfl ⟨by rw [HV.out, HE.out]; rfl, ?_⟩
                  exact (((HB.out.setCell (p := ⟨w.heap.size, 0, none⟩) (by simp) _).setCell (p := ⟨w.heap.size, 1, none⟩) (by simp) _).setCell (p := ⟨w.heap.size, 2, none⟩) (by simp) _).setCell (p := ⟨w.heap.size, 3, none⟩) (by simp) _
                | some v =>
                  have hdv : dV hexK D[i] = (v : Int) := by unfold dV; rw [hd]
                  rw [hdv] at hdg
                  have hv16 := hkb v hd
                  have hv0 : (0 : Int) ≤ (v : Int) := by omega
                  have hv1 : (v : Int) < 16 := by omega
                  rw [hd] at hsn
                  simp only [Option.bind_some, Option.map_some] at hsn
                  have hm' : m * hexK.base + v < 2135987035920910082395021706169552114602704522356652769947041607822219725780640550022962086936576 := by
                    have h1 := numFrom_lt hexK _ _ _ hsn
                    have h2 : (D.data.toList.take (i + 1)).length ≤ 78 := by have := HS.out; have := HL.out; rw [List.length_take]; omega
                    have h3 : hexK.base ^ (D.data.toList.take (i + 1)).length ≤ hexK.base ^ 78 := Nat.pow_le_pow_right (by decide) h2
                    have h4 : hexK.base ^ 78 < 2135987035920910082395021706169552114602704522356652769947041607822219725780640550022962086936576 := by decide
                    omega
                  have HVAL : Hid (valI (rD (muD z 16 (v : Int))) 40 = ((m * hexK.base + v : Nat) : Int)) := mul_digit z 16 v m (m * hexK.base + v) hz ⟨by omega, by omega⟩ ⟨hv0, hv1⟩ hval (by rw [Int.natCast_add, Int.natCast_mul]; rfl) hm'
                  have HMB := Lib.hid (muC_bound z 16 (v : Int) hz ⟨by omega, by omega⟩ ⟨hv0, hv1⟩)
                  have HMS := Lib.hid (muC_step z 16 (v : Int))
                  have HSN := Lib.hid hsn
                  have HI := Lib.hid hlt
                  have HZ := Lib.hid hz
                  have HX := Lib.hid xx
                  clear hi hnum hval hz hsn hkb hd hdv hm' xx
                  go_wp2_with fail
                  refine (hdg _).mono ?_
                  rintro e w5 ⟨rfl, q⟩
                  have aa5 := aa.later' q
                  have hB5 := hB.trans (q.mono hB.size)
                  have xx5 := HX.out.later q
                  clear q hdg HX aa hB
                  obtain ⟨wo, rfl⟩ : ∃ wo : World, wo = wr := ⟨_, rfl⟩
                  go_wp2
                  go_loopw [8, 9] (fun c q wr => ∃ k : Nat, k ≤ 40 ∧ q = .int .i64 (k : Int) ∧ c = .int .i64 (muC z 16 (v : Int) k) ∧ IntsAt wr (w.heap.size + 1) 40 (fun j => if j < k then rD (muD z 16 (v : Int)) j else z j) ∧ Arr4 wr w.heap.size 24 (fun _ => 0) ∧ Below w.heap.size w wr) (fun _ q _ => 40 - (intOf q).toNat)
                  case atStart => exact ⟨0, by omega, rfl, rfl, xx5.congr (fun j _ => (if_neg (by omega)).symm), aa5, hB5⟩
                  case round =>
                    clear xx5 aa5 hB5
                    obtain ⟨k, hk, rfl, rfl, xx, aa, hB⟩ := hrel
                    by_cases hlt : k < 40
                    · have hkI : (k : Int) < 40 := by omega
                      have hk0 : (0 : Int) ≤ (k : Int) := by omega
                      obtain ⟨c0, c1, p0, p1⟩ := HMB.out k
                      obtain ⟨z0, z9⟩ := HZ.out k
                      obtain ⟨s1, s2⟩ := HMS.out k
                      have cc := xx.cell hlt
                      rw [if_neg (by omega)] at cc
                      have ff := xx.frozen k
                      have HC1 := Lib.hid s1
                      have N1 := Lib.hid (xx.set hlt ((muC z 16 (v : Int) k + z k * 16) % 256))
                      have N2 := Lib.hid (aa.other (p := ⟨w.heap.size + 1, k, none⟩) (by simp) (.int .i64 ((muC z 16 (v : Int) k + z k * 16) % 256)))
                      have N3 := Lib.hid (hB.setCell (p := ⟨w.heap.size + 1, k, none⟩) (by simp) (.int .i64 ((muC z 16 (v : Int) k + z k * 16) % 256)))
                      rw [← s2] at N1
                      have HK := Lib.hid hlt
                      have HRM := Lib.hid s2
                      have t1 : (muC z 16 (v : Int) k + z k * 16).tmod 256 = (muC z 16 (v : Int) k + z k * 16) % 256 := Int.tmod_eq_emod_of_nonneg (by omega)
                      have t2 : (muC z 16 (v : Int) k + z k * 16).tdiv 256 = (muC z 16 (v : Int) k + z k * 16) / 256 := Int.tdiv_eq_ediv_of_nonneg (by omega)
                      have t3 : 0 ≤ (muC z 16 (v : Int) k + z k * 16) % 256 := by omega
                      have t4 : (muC z 16 (v : Int) k + z k * 16) % 256 < 256 := by omega
                      have t5 : 0 ≤ (muC z 16 (v : Int) k + z k * 16) / 256 := by omega
                      have t6 : (muC z 16 (v : Int) k + z k * 16) / 256 ≤ 16 := by omega
                      rw [s2] at N1
                      clear hk hlt xx aa hB s1 s2
                      generalize muC z 16 (v : Int) k = cv at *
                      generalize hzk : z k = zk at *
                      generalize hxy : cv + zk * 16 = xy at *
                      generalize xy % 256 = ym at *
                      generalize xy / 256 = yd at *
                      go_wp2
                      go_roundw
                      case rel =>
                        refine ⟨k + 1, HK.out, by simp, by rw [HC1.out], N1.out.congr (fun j _ => ?_), N2.out, N3.out⟩
                        by_cases h1 : j = k
                        · subst h1
                          rw [if_pos rfl, if_pos (by omega)]
                          exact HRM.out.symm
                        · rw [if_neg h1]
                          by_cases h2 : j < k
                          · rw [if_pos h2, if_pos (by omega)]
                          · rw [if_neg h2, if_neg (by omega)]
                      case measure => have := HK.out; simp [intOf]; omega
                    · obtain rfl : k = 40 := by omega
                      have N1 := Lib.hid (xx.congr (e := rD (muD z 16 (v : Int))) (fun j hj => if_pos hj))
                      have N2 := Lib.hid aa
                      have N3 := Lib.hid hB
                      clear hk hlt xx aa hB
                      go_wp2
                      go_roundw
                      case rel => exact ⟨i + 1, m * hexK.base + v, _, HI.out, by simp, HSN.out, HVAL.out, fun j => rD_range _ j, N1.out, N2.out, N3.out⟩
                      case measure => have := HI.out; simp [intOf]; omega
              · obtain rfl : i = D.size := by omega
                have hfull : D.data.toList.take D.size = D.data.toList := List.take_of_length_le (by rw [HL.out]; exact Nat.le_refl _)
                rw [hfull] at hnum
                have HNUM := Lib.hid hnum
                have HVAL := Lib.hid hval
                have HZ := Lib.hid hz
                have N1 := Lib.hid xx
                have N2 := Lib.hid aa
                have N3 := Lib.hid hB
                clear hi hlt hfull hnum hval hz xx aa hB HDIG HKB
                obtain ⟨wo, rfl⟩ : ∃ wo : World, wo = wr := ⟨_, rfl⟩
                go_wp2
                go_loopw [10] (fun q wr => ∃ k : Nat, 32 ≤ k ∧ k ≤ 40 ∧ q = .int .i64 (k : Int) ∧ (∀ j, 32 ≤ j → j < k → z j = 0) ∧ IntsAt wr (w.heap.size + 1) 40 z ∧ Arr4 wr w.heap.size 24 (fun _ => 0) ∧ Below w.heap.size w wr) (fun q _ => 40 - (intOf q).toNat)
                case atStart => exact ⟨32, by omega, by omega, rfl, fun j h1 h2 => by omega, N1.out, N2.out, N3.out⟩
                case round =>
                  clear N1 N2 N3
                  obtain ⟨k, hk32, hk, rfl, h0, xx, aa, hB⟩ := hrel
                  by_cases hlt : k < 40
                  · have hkI : (k : Int) < 40 := by omega
                    have hk0 : (0 : Int) ≤ (k : Int) := by omega
                    have cc := xx.cell hlt
                    by_cases hzk : z k = 0
                    · rw [hzk] at cc
                      have H0 := Lib.hid h0
                      have HZK := Lib.hid hzk
                      have HK := Lib.hid (And.intro hk32 hlt)
                      have N1 := Lib.hid xx
                      have N2 := Lib.hid aa
                      have N3 := Lib.hid hB
                      clear hk32 hk h0 hlt xx aa hB hzk
                      go_wp2
                      go_roundw
                      case rel => exact ⟨k + 1, by have := HK.out; omega, by have := HK.out; omega, by simp, fun j h1 h2 => by
                        by_cases e : j = k
                        · rw [e]; exact HZK.out
                        · exact H0.out j h1 (by omega), N1.out, N2.out, N3.out⟩
                      case measure => have := HK.out; simp [intOf]; omega
                    · have HE : Hid (wordIf (numFrom hexK 0 D.data.toList) = errV) := by
                        show _ = _
                        rw [HNUM.out]
                        unfold wordIf
                        exact if_neg (forty_high z m k HVAL.out HZ.out hk32 hlt hzk)
                      have hzb : (z k != 0) = true := by simpa using hzk
                      have f0 := aa.frozen 0
                      have f1 := aa.frozen 1
                      have f2 := aa.frozen 2
                      have f3 := aa.frozen 3
                      have d0 := aa.cell (j := 0) (by omega)
                      have d1 := aa.cell (j := 1) (by omega)
                      have d2 := aa.cell (j := 2) (by omega)
                      have d3 := aa.cell (j := 3) (by omega)
                      have HA := Lib.hid aa
                      have HB := Lib.hid hB
                      clear hk32 hk h0 hlt xx aa hB
                      generalize z k = zk at *
                      go_wp2
                      refine bodyPost_ret (results_wordE rfl rfl (HA.out.store (fun _ => 0))) rfl ⟨by rw [HV.out, HE.out]; rfl, ?_⟩
                      exact (((HB.out.setCell (p := ⟨w.heap.size, 0, none⟩) (by simp) _).setCell (p := ⟨w.heap.size, 1, none⟩) (by simp) _).setCell (p := ⟨w.heap.size, 2, none⟩) (by simp) _).setCell (p := ⟨w.heap.size, 3, none⟩) (by simp) _
                  · obtain rfl : k = 40 := by omega
                    obtain ⟨g1, g2⟩ := forty_low z m HVAL.out HZ.out h0
                    have HE : Hid (wordIf (numFrom hexK 0 D.data.toList) = .tuple #[.agg #[.int .u64 (lim m 0), .int .u64 (lim m 1), .int .u64 (lim m 2), .int .u64 (lim m 3)], .int .i64 0]) := by
                      show _ = _
                      rw [HNUM.out]
                      unfold wordIf
                      exact if_pos g2
                    have DD := fromDigits_any (cut40 z) (cut40_range z HZ.out) 40 (w.heap.size + 1) 40 (by omega) (fun j hj => if_neg (by omega)) wr (xx.congr (fun j hj => (if_pos hj).symm))
                    rw [g1] at DD
                    have N2 := Lib.hid aa
                    have N3 := Lib.hid hB
                    clear hk32 hk h0 hlt xx aa hB g1 g2 HZ HVAL HNUM
                    unfold wv at DD
                    go_wp2_with fail
                    refine DD.mono ?_
                    rintro e w6 ⟨rfl, q⟩
                    have aa := N2.out.later' q
                    have hB := N3.out.trans (q.mono N3.out.size)
                    have f0 := aa.frozen 0
                    have f1 := aa.frozen 1
                    have f2 := aa.frozen 2
                    have f3 := aa.frozen 3
                    have d0 := aa.cell (j := 0) (by omega)
                    have d1 := aa.cell (j := 1) (by omega)
                    have d2 := aa.cell (j := 2) (by omega)
                    have d3 := aa.cell (j := 3) (by omega)
                    have HA := Lib.hid aa
                    have HB := Lib.hid hB
                    clear q DD N2 N3 aa hB
                    go_wp2
                    refine bodyPost_ret (results_wordE rfl rfl (HA.out.store (lim m))) rfl ⟨by rw [HV.out, HE.out]; rfl, ?_⟩
                    exact (((HB.out.setCell (p := ⟨w.heap.size, 0, none⟩) (by simp) _).setCell (p := ⟨w.heap.size, 1, none⟩) (by simp) _).setCell (p := ⟨w.heap.size, 2, none⟩) (by simp) _).setCell (p := ⟨w.heap.size, 3, none⟩) (by simp) _
  case neg =>
    rw [parse_decP s hh]
    have HDIG := Lib.hid digit_dec
    have hK : decK.base = 10 := rfl
    have HKB : Hid (∀ c v, decK.dig c = some v → v < 16) := fun c v h => by have := decK.lt c v h; have e : decK.base = 10 := rfl; omega
    by_cases h2 : 2 < s.size
    case pos =>
      have z1 : (2 : Int) < (s.size : Int) := by omega
      have z2 : (2 : Int) ≤ (s.size : Int) := by omega
      have z3 : (0 : Int) ≤ (s.size : Int) := by omega
      have he' : ((s.extract 0 2).toList == [48, 120]) = false := by
        rw [beq_eq_false_iff_ne]
        intro e
        rw [ByteArray.toList_eq] at e
        exact hh ⟨h2, ByteArray.ext (Array.toList_inj.1 e)⟩
      clear hh h2
      have hl : s.data.toList.length = s.size := by simp
      by_cases h0 : s.size = 0
      · have hnil : s.data.toList = [] := List.eq_nil_of_length_eq_zero (by rw [hl]; exact h0)
        have HV : Hid (tailP decK s.data.toList = errV) := by show _ = _; unfold tailP; rw [if_pos (.inl hnil)]
        have e1 : s.toList = [] := by rw [ByteArray.toList_eq]; exact hnil
        have e2 : s.toList.isEmpty = true := by rw [e1]; rfl
        clear hl h0 hnil HDIG hK HKB hmk
        go_enter Tryd.func29, Tryd.ntmps29
        go_wp2
        refine bodyPost_ret (results_wordE rfl rfl (m := fun _ => 0) A0) rfl ⟨by rw [HV.out]; rfl, (Below.refl _ _).alloc (Nat.le_refl _) _⟩
      · have hpos : 0 < s.size := by omega
        have hposI : (0 : Int) < (s.size : Int) := by omega
        have hne : s.data.toList ≠ [] := fun e => by rw [e] at hl; simp at hl; omega
        have en : ¬ s.toList = [] := by rw [ByteArray.toList_eq]; exact hne
        have en2 : s.toList.isEmpty = false := by rw [ByteArray.toList_eq]; cases hx : s.data.toList with
          | nil => exact absurd hx hne
          | cons c r => rfl
        have hhd : s.data.toList.head? = some s[0] := by rw [List.head?_eq_getElem?, List.getElem?_eq_getElem (by omega)]; rfl
        by_cases h78 : 78 < s.size
        · have HV : Hid (tailP decK s.data.toList = errV) := by show _ = _; unfold tailP; rw [if_pos (.inr (.inl (by omega)))]
          have y1 : (78 : Int) < (s.size : Int) := by omega
          clear hl h0 HDIG hK HKB hmk hhd hne h78
          go_enter Tryd.func29, Tryd.ntmps29
          go_wp2
          refine bodyPost_ret (results_wordE rfl rfl (m := fun _ => 0) A0) rfl ⟨by rw [HV.out]; rfl, (Below.refl _ _).alloc (Nat.le_refl _) _⟩
        · have y1 : ¬ (78 : Int) < (s.size : Int) := by omega
          have y2 : (s.size : Int) ≤ 78 := by omega
          by_cases h48 : s[0] = 48 ∧ 1 < s.size
          · have HV : Hid (tailP decK s.data.toList = errV) := by show _ = _; unfold tailP; rw [if_pos (.inr (.inr ⟨by rw [hhd, h48.1], by omega⟩))]
            have e4 : ((s[0].toNat : Int) == 48) = true := by rw [h48.1]; rfl
            have y3 : (1 : Int) < (s.size : Int) := by omega
            have e5 : (s[0].toNat : Int) = 48 := by rw [h48.1]; rfl
            clear hl h0 HDIG hK HKB hmk hhd hne h78 h48
            go_enter Tryd.func29, Tryd.ntmps29
            go_wp2
            refine bodyPost_ret (results_wordE rfl rfl (m := fun _ => 0) A0) rfl ⟨by rw [HV.out]; rfl, (Below.refl _ _).alloc (Nat.le_refl _) _⟩
          · have HV : Hid (tailP decK s.data.toList = wordIf (numFrom decK 0 s.data.toList)) := by
              show _ = _
              unfold tailP
              rw [if_neg]
              rintro (e | e | ⟨e, e2⟩)
              · exact hne e
              · omega
              · exact h48 ⟨by rw [hhd] at e; exact Option.some.inj e, by omega⟩
            have htest : (¬ (1 : Int) < (s.size : Int) ∧ (s[0].toNat : Int) = 48) ∨ ((s[0].toNat : Int) == 48) = false := by
              by_cases h3 : s[0] = 48
              · left
                exact ⟨fun e => h48 ⟨h3, by omega⟩, by rw [h3]; rfl⟩
              · right
                rw [beq_eq_false_iff_ne]
                intro e
                exact h3 (UInt8.toNat_inj.1 (by show _ = 48; omega))
            have A1 := A0.alloc (.cells (madeCells #[.int .i64 0] 40) 3)
            have X0 := zero40 (w.alloc (.cells #[.int .u64 0, .int .u64 0, .int .u64 0, .int .u64 0] 24))
            have B0 := ((Below.refl _ w).alloc (Nat.le_refl _) (.cells #[.int .u64 0, .int .u64 0, .int .u64 0, .int .u64 0] 24)).alloc (by simp) (.cells (madeCells #[.int .i64 0] 40) 3)
            rw [World.size_alloc] at X0
            have hsz78 : s.size ≤ 78 := by omega
            have HL := Lib.hid hl
            have HS := Lib.hid hsz78
            clear hl h0 hhd hne h78 h48 A0 hsz78
            rcases htest with ⟨e4, e5⟩ | e4
            all_goals (try (exfalso; omega))
            all_goals
              go_enter Tryd.func29, Tryd.ntmps29
              go_wp2
              obtain ⟨W0, hW0⟩ : ∃ W0, (w.alloc (.cells #[.int .u64 0, .int .u64 0, .int .u64 0, .int .u64 0] 24)).alloc (.cells (madeCells #[.int .i64 0] 40) 3) = W0 := ⟨_, rfl⟩
              rw [hW0] at A1 X0 B0 ⊢
              clear hW0 hmk
              go_loopw [7] (fun q wr => ∃ (i m : Nat) (z : Nat → Int), i ≤ s.size ∧ q = .int .i64 (i : Int) ∧ numFrom decK 0 (s.data.toList.take i) = some m ∧ valI z 40 = (m : Int) ∧ (∀ j, 0 ≤ z j ∧ z j < 256) ∧ IntsAt wr (w.heap.size + 1) 40 z ∧ Arr4 wr w.heap.size 24 (fun _ => 0) ∧ Below w.heap.size w wr) (fun q _ => s.size - (intOf q).toNat)
              case atStart => exact ⟨0, 0, _, by omega, rfl, rfl, valI_zero 40, fun _ => ⟨by omega, by omega⟩, X0, A1, B0⟩
              case round =>
                obtain ⟨i, m, z, hi, rfl, hnum, hval, hz, xx, aa, hB⟩ := hrel
                clear A1 X0 B0
                by_cases hlt : i < s.size
                · have hiI : (i : Int) < (s.size : Int) := by omega
                  have hi0 : (0 : Int) ≤ (i : Int) := by omega
                  have hsn := numFrom_snoc decK (s.data.toList.take i) s[i]
                  rw [← take_snoc s i hlt, hnum] at hsn
                  have hdg := HDIG.out s[i]
                  have hkb := HKB.out s[i]
                  cases hd : decK.dig s[i] with
                  | none =>
                    have hdv : dV decK s[i] = -1 := by unfold dV; rw [hd]
                    rw [hdv] at hdg
                    have HE : Hid (wordIf (numFrom decK 0 s.data.toList) = errV) := by
                      show _ = _
                      rw [numFrom_bad decK s i hlt hd]
                      rfl
                    have hx := Lib.hid xx
                    clear hi hnum hval hz hsn hkb hd hdv xx
                    go_wp2_with fail
                    refine (hdg _).mono ?_
                    rintro e w5 ⟨rfl, q⟩
                    have aa := aa.later' q
                    have hB := hB.trans (q.mono hB.size)
                    have f0 := aa.frozen 0
                    have f1 := aa.frozen 1
                    have f2 := aa.frozen 2
                    have f3 := aa.frozen 3
                    have d0 := aa.cell (j := 0) (by omega)
                    have d1 := aa.cell (j := 1) (by omega)
                    have d2 := aa.cell (j := 2) (by omega)
                    have d3 := aa.cell (j := 3) (by omega)
                    have HA := Lib.hid aa
                    have HB := Lib.hid hB
                    clear q aa hB hdg
                    go_wp2
                    refine bodyPost_ret (results_wordE rfl rfl (HA.out.store (fun _ => 0))) rfl ⟨by rw [HV.out, HE.out]; rfl, ?_⟩
                    exact (((HB.out.setCell (p := ⟨w.heap.size, 0, none⟩) (by simp) _).setCell (p := ⟨w.heap.size, 1, none⟩) (by simp) _).setCell (p := ⟨w.heap.size, 2, none⟩) (by simp) _).setCell (p := ⟨w.heap.size, 3, none⟩) (by simp) _
                  | some v =>
                    have hdv : dV decK s[i] = (v : Int) := by unfold dV; rw [hd]
                    rw [hdv] at hdg
                    have hv16 := hkb v hd
                    have hv0 : (0 : Int) ≤ (v : Int) := by omega
                    have hv1 : (v : Int) < 16 := by omega
                    rw [hd] at hsn
                    simp only [Option.bind_some, Option.map_some] at hsn
                    have hm' : m * decK.base + v < 2135987035920910082395021706169552114602704522356652769947041607822219725780640550022962086936576 := by
                      have h1 := numFrom_lt decK _ _ _ hsn
                      have h2 : (s.data.toList.take (i + 1)).length ≤ 78 := by have := HS.out; have := HL.out; rw [List.length_take]; omega
                      have h3 : decK.base ^ (s.data.toList.take (i + 1)).length ≤ decK.base ^ 78 := Nat.pow_le_pow_right (by decide) h2
                      have h4 : decK.base ^ 78 < 2135987035920910082395021706169552114602704522356652769947041607822219725780640550022962086936576 := by decide
                      omega
                    have HVAL : Hid (valI (rD (muD z 10 (v : Int))) 40 = ((m * decK.base + v : Nat) : Int)) := mul_digit z 10 v m (m * decK.base + v) hz ⟨by omega, by omega⟩ ⟨hv0, hv1⟩ hval (by rw [Int.natCast_add, Int.natCast_mul]; rfl) hm'
                    have HMB := Lib.hid (muC_bound z 10 (v : Int) hz ⟨by omega, by omega⟩ ⟨hv0, hv1⟩)
                    have HMS := Lib.hid (muC_step z 10 (v : Int))
                    have HSN := Lib.hid hsn
                    have HI := Lib.hid hlt
                    have HZ := Lib.hid hz
                    have HX := Lib.hid xx
                    clear hi hnum hval hz hsn hkb hd hdv hm' xx
                    go_wp2_with fail
                    refine (hdg _).mono ?_
                    rintro e w5 ⟨rfl, q⟩
                    have aa5 := aa.later' q
                    have hB5 := hB.trans (q.mono hB.size)
                    have xx5 := HX.out.later q
                    clear q hdg HX aa hB
                    obtain ⟨wo, rfl⟩ : ∃ wo : World, wo = wr := ⟨_, rfl⟩
                    go_wp2
                    go_loopw [8, 9] (fun c q wr => ∃ k : Nat, k ≤ 40 ∧ q = .int .i64 (k : Int) ∧ c = .int .i64 (muC z 10 (v : Int) k) ∧ IntsAt wr (w.heap.size + 1) 40 (fun j => if j < k then rD (muD z 10 (v : Int)) j else z j) ∧ Arr4 wr w.heap.size 24 (fun _ => 0) ∧ Below w.heap.size w wr) (fun _ q _ => 40 - (intOf q).toNat)
                    case atStart => exact ⟨0, by omega, rfl, rfl, xx5.congr (fun j _ => (if_neg (by omega)).symm), aa5, hB5⟩
                    case round =>
                      clear xx5 aa5 hB5
                      obtain ⟨k, hk, rfl, rfl, xx, aa, hB⟩ := hrel
                      by_cases hlt : k < 40
                      · have hkI : (k : Int) < 40 := by omega
                        have hk0 : (0 : Int) ≤ (k : Int) := by omega
                        obtain ⟨c0, c1, p0, p1⟩ := HMB.out k
                        obtain ⟨z0, z9⟩ := HZ.out k
                        obtain ⟨s1, s2⟩ := HMS.out k
                        have cc := xx.cell hlt
                        rw [if_neg (by omega)] at cc
                        have ff := xx.frozen k
                        have HC1 := Lib.hid s1
                        have N1 := Lib.hid (xx.set hlt ((muC z 10 (v : Int) k + z k * 10) % 256))
                        have N2 := Lib.hid (aa.other (p := ⟨w.heap.size + 1, k, none⟩) (by simp) (.int .i64 ((muC z 10 (v : Int) k + z k * 10) % 256)))
                        have N3 := Lib.hid (hB.setCell (p := ⟨w.heap.size + 1, k, none⟩) (by simp) (.int .i64 ((muC z 10 (v : Int) k + z k * 10) % 256)))
                        rw [← s2] at N1
                        have HK := Lib.hid hlt
                        have HRM := Lib.hid s2
                        have t1 : (muC z 10 (v : Int) k + z k * 10).tmod 256 = (muC z 10 (v : Int) k + z k * 10) % 256 := Int.tmod_eq_emod_of_nonneg (by omega)
                        have t2 : (muC z 10 (v : Int) k + z k * 10).tdiv 256 = (muC z 10 (v : Int) k + z k * 10) / 256 := Int.tdiv_eq_ediv_of_nonneg (by omega)
                        have t3 : 0 ≤ (muC z 10 (v : Int) k + z k * 10) % 256 := by omega
                        have t4 : (muC z 10 (v : Int) k + z k * 10) % 256 < 256 := by omega
                        have t5 : 0 ≤ (muC z 10 (v : Int) k + z k * 10) / 256 := by omega
                        have t6 : (muC z 10 (v : Int) k + z k * 10) / 256 ≤ 16 := by omega
                        rw [s2] at N1
                        clear hk hlt xx aa hB s1 s2
                        generalize muC z 10 (v : Int) k = cv at *
                        generalize hzk : z k = zk at *
                        generalize hxy : cv + zk * 10 = xy at *
                        generalize xy % 256 = ym at *
                        generalize xy / 256 = yd at *
                        go_wp2
                        go_roundw
                        case rel =>
                          refine ⟨k + 1, HK.out, by simp, by rw [HC1.out], N1.out.congr (fun j _ => ?_), N2.out, N3.out⟩
                          by_cases h1 : j = k
                          · subst h1
                            rw [if_pos rfl, if_pos (by omega)]
                            exact HRM.out.symm
                          · rw [if_neg h1]
                            by_cases h2 : j < k
                            · rw [if_pos h2, if_pos (by omega)]
                            · rw [if_neg h2, if_neg (by omega)]
                        case measure => have := HK.out; simp [intOf]; omega
                      · obtain rfl : k = 40 := by omega
                        have N1 := Lib.hid (xx.congr (e := rD (muD z 10 (v : Int))) (fun j hj => if_pos hj))
                        have N2 := Lib.hid aa
                        have N3 := Lib.hid hB
                        clear hk hlt xx aa hB
                        go_wp2
                        go_roundw
                        case rel => exact ⟨i + 1, m * decK.base + v, _, HI.out, by simp, HSN.out, HVAL.out, fun j => rD_range _ j, N1.out, N2.out, N3.out⟩
                        case measure => have := HI.out; simp [intOf]; omega
                · obtain rfl : i = s.size := by omega
                  have hfull : s.data.toList.take s.size = s.data.toList := List.take_of_length_le (by rw [HL.out]; exact Nat.le_refl _)
                  rw [hfull] at hnum
                  have HNUM := Lib.hid hnum
                  have HVAL := Lib.hid hval
                  have HZ := Lib.hid hz
                  have N1 := Lib.hid xx
                  have N2 := Lib.hid aa
                  have N3 := Lib.hid hB
                  clear hi hlt hfull hnum hval hz xx aa hB HDIG HKB
                  obtain ⟨wo, rfl⟩ : ∃ wo : World, wo = wr := ⟨_, rfl⟩
                  go_wp2
                  go_loopw [10] (fun q wr => ∃ k : Nat, 32 ≤ k ∧ k ≤ 40 ∧ q = .int .i64 (k : Int) ∧ (∀ j, 32 ≤ j → j < k → z j = 0) ∧ IntsAt wr (w.heap.size + 1) 40 z ∧ Arr4 wr w.heap.size 24 (fun _ => 0) ∧ Below w.heap.size w wr) (fun q _ => 40 - (intOf q).toNat)
                  case atStart => exact ⟨32, by omega, by omega, rfl, fun j h1 h2 => by omega, N1.out, N2.out, N3.out⟩
                  case round =>
                    clear N1 N2 N3
                    obtain ⟨k, hk32, hk, rfl, h0, xx, aa, hB⟩ := hrel
                    by_cases hlt : k < 40
                    · have hkI : (k : Int) < 40 := by omega
                      have hk0 : (0 : Int) ≤ (k : Int) := by omega
                      have cc := xx.cell hlt
                      by_cases hzk : z k = 0
                      · rw [hzk] at cc
                        have H0 := Lib.hid h0
                        have HZK := Lib.hid hzk
                        have HK := Lib.hid (And.intro hk32 hlt)
                        have N1 := Lib.hid xx
                        have N2 := Lib.hid aa
                        have N3 := Lib.hid hB
                        clear hk32 hk h0 hlt xx aa hB hzk
                        go_wp2
                        go_roundw
                        case rel => exact ⟨k + 1, by have := HK.out; omega, by have := HK.out; omega, by simp, fun j h1 h2 => by
                          by_cases e : j = k
                          · rw [e]; exact HZK.out
                          · exact H0.out j h1 (by omega), N1.out, N2.out, N3.out⟩
                        case measure => have := HK.out; simp [intOf]; omega
                      · have HE : Hid (wordIf (numFrom decK 0 s.data.toList) = errV) := by
                          show _ = _
                          rw [HNUM.out]
                          unfold wordIf
                          exact if_neg (forty_high z m k HVAL.out HZ.out hk32 hlt hzk)
                        have hzb : (z k != 0) = true := by simpa using hzk
                        have f0 := aa.frozen 0
                        have f1 := aa.frozen 1
                        have f2 := aa.frozen 2
                        have f3 := aa.frozen 3
                        have d0 := aa.cell (j := 0) (by omega)
                        have d1 := aa.cell (j := 1) (by omega)
                        have d2 := aa.cell (j := 2) (by omega)
                        have d3 := aa.cell (j := 3) (by omega)
                        have HA := Lib.hid aa
                        have HB := Lib.hid hB
                        clear hk32 hk h0 hlt xx aa hB
                        generalize z k = zk at *
                        go_wp2
                        refine bodyPost_ret (results_wordE rfl rfl (HA.out.store (fun _ => 0))) rfl ⟨by rw [HV.out, HE.out]; rfl, ?_⟩
                        exact (((HB.out.setCell (p := ⟨w.heap.size, 0, none⟩) (by simp) _).setCell (p := ⟨w.heap.size, 1, none⟩) (by simp) _).setCell (p := ⟨w.heap.size, 2, none⟩) (by simp) _).setCell (p := ⟨w.heap.size, 3, none⟩) (by simp) _
                    · obtain rfl : k = 40 := by omega
                      obtain ⟨g1, g2⟩ := forty_low z m HVAL.out HZ.out h0
                      have HE : Hid (wordIf (numFrom decK 0 s.data.toList) = .tuple #[.agg #[.int .u64 (lim m 0), .int .u64 (lim m 1), .int .u64 (lim m 2), .int .u64 (lim m 3)], .int .i64 0]) := by
                        show _ = _
                        rw [HNUM.out]
                        unfold wordIf
                        exact if_pos g2
                      have DD := fromDigits_any (cut40 z) (cut40_range z HZ.out) 40 (w.heap.size + 1) 40 (by omega) (fun j hj => if_neg (by omega)) wr (xx.congr (fun j hj => (if_pos hj).symm))
                      rw [g1] at DD
                      have N2 := Lib.hid aa
                      have N3 := Lib.hid hB
                      clear hk32 hk h0 hlt xx aa hB g1 g2 HZ HVAL HNUM
                      unfold wv at DD
                      go_wp2_with fail
                      refine DD.mono ?_
                      rintro e w6 ⟨rfl, q⟩
                      have aa := N2.out.later' q
                      have hB := N3.out.trans (q.mono N3.out.size)
                      have f0 := aa.frozen 0
                      have f1 := aa.frozen 1
                      have f2 := aa.frozen 2
                      have f3 := aa.frozen 3
                      have d0 := aa.cell (j := 0) (by omega)
                      have d1 := aa.cell (j := 1) (by omega)
                      have d2 := aa.cell (j := 2) (by omega)
                      have d3 := aa.cell (j := 3) (by omega)
                      have HA := Lib.hid aa
                      have HB := Lib.hid hB
                      clear q DD N2 N3 aa hB
                      go_wp2
                      refine bodyPost_ret (results_wordE rfl rfl (HA.out.store (lim m))) rfl ⟨by rw [HV.out, HE.out]; rfl, ?_⟩
                      exact (((HB.out.setCell (p := ⟨w.heap.size, 0, none⟩) (by simp) _).setCell (p := ⟨w.heap.size, 1, none⟩) (by simp) _).setCell (p := ⟨w.heap.size, 2, none⟩) (by simp) _).setCell (p := ⟨w.heap.size, 3, none⟩) (by simp) _
    case neg =>
      have z1 : ¬ (2 : Int) < (s.size : Int) := by omega
      have z2 : (s.size : Int) ≤ 2 := by omega
      have z3 : (0 : Int) ≤ (s.size : Int) := by omega
      clear hh h2
      have hl : s.data.toList.length = s.size := by simp
      by_cases h0 : s.size = 0
      · have hnil : s.data.toList = [] := List.eq_nil_of_length_eq_zero (by rw [hl]; exact h0)
        have HV : Hid (tailP decK s.data.toList = errV) := by show _ = _; unfold tailP; rw [if_pos (.inl hnil)]
        have e1 : s.toList = [] := by rw [ByteArray.toList_eq]; exact hnil
        have e2 : s.toList.isEmpty = true := by rw [e1]; rfl
        clear hl h0 hnil HDIG hK HKB hmk
        go_enter Tryd.func29, Tryd.ntmps29
        go_wp2
        refine bodyPost_ret (results_wordE rfl rfl (m := fun _ => 0) A0) rfl ⟨by rw [HV.out]; rfl, (Below.refl _ _).alloc (Nat.le_refl _) _⟩
      · have hpos : 0 < s.size := by omega
        have hposI : (0 : Int) < (s.size : Int) := by omega
        have hne : s.data.toList ≠ [] := fun e => by rw [e] at hl; simp at hl; omega
        have en : ¬ s.toList = [] := by rw [ByteArray.toList_eq]; exact hne
        have en2 : s.toList.isEmpty = false := by rw [ByteArray.toList_eq]; cases hx : s.data.toList with
          | nil => exact absurd hx hne
          | cons c r => rfl
        have hhd : s.data.toList.head? = some s[0] := by rw [List.head?_eq_getElem?, List.getElem?_eq_getElem (by omega)]; rfl
        by_cases h78 : 78 < s.size
        · have HV : Hid (tailP decK s.data.toList = errV) := by show _ = _; unfold tailP; rw [if_pos (.inr (.inl (by omega)))]
          have y1 : (78 : Int) < (s.size : Int) := by omega
          clear hl h0 HDIG hK HKB hmk hhd hne h78
          exfalso
          omega
        · have y1 : ¬ (78 : Int) < (s.size : Int) := by omega
          have y2 : (s.size : Int) ≤ 78 := by omega
          by_cases h48 : s[0] = 48 ∧ 1 < s.size
          · have HV : Hid (tailP decK s.data.toList = errV) := by show _ = _; unfold tailP; rw [if_pos (.inr (.inr ⟨by rw [hhd, h48.1], by omega⟩))]
            have e4 : ((s[0].toNat : Int) == 48) = true := by rw [h48.1]; rfl
            have y3 : (1 : Int) < (s.size : Int) := by omega
            have e5 : (s[0].toNat : Int) = 48 := by rw [h48.1]; rfl
            clear hl h0 HDIG hK HKB hmk hhd hne h78 h48
            go_enter Tryd.func29, Tryd.ntmps29
            go_wp2
            refine bodyPost_ret (results_wordE rfl rfl (m := fun _ => 0) A0) rfl ⟨by rw [HV.out]; rfl, (Below.refl _ _).alloc (Nat.le_refl _) _⟩
          · have HV : Hid (tailP decK s.data.toList = wordIf (numFrom decK 0 s.data.toList)) := by
              show _ = _
              unfold tailP
              rw [if_neg]
              rintro (e | e | ⟨e, e2⟩)
              · exact hne e
              · omega
              · exact h48 ⟨by rw [hhd] at e; exact Option.some.inj e, by omega⟩
            have htest : (¬ (1 : Int) < (s.size : Int) ∧ (s[0].toNat : Int) = 48) ∨ ((s[0].toNat : Int) == 48) = false := by
              by_cases h3 : s[0] = 48
              · left
                exact ⟨fun e => h48 ⟨h3, by omega⟩, by rw [h3]; rfl⟩
              · right
                rw [beq_eq_false_iff_ne]
                intro e
                exact h3 (UInt8.toNat_inj.1 (by show _ = 48; omega))
            have A1 := A0.alloc (.cells (madeCells #[.int .i64 0] 40) 3)
            have X0 := zero40 (w.alloc (.cells #[.int .u64 0, .int .u64 0, .int .u64 0, .int .u64 0] 24))
            have B0 := ((Below.refl _ w).alloc (Nat.le_refl _) (.cells #[.int .u64 0, .int .u64 0, .int .u64 0, .int .u64 0] 24)).alloc (by simp) (.cells (madeCells #[.int .i64 0] 40) 3)
            rw [World.size_alloc] at X0
            have hsz78 : s.size ≤ 78 := by omega
            have HL := Lib.hid hl
            have HS := Lib.hid hsz78
            clear hl h0 hhd hne h78 h48 A0 hsz78
            rcases htest with ⟨e4, e5⟩ | e4
            all_goals (try (exfalso; omega))
            all_goals
              go_enter Tryd.func29, Tryd.ntmps29
              go_wp2
              obtain ⟨W0, hW0⟩ : ∃ W0, (w.alloc (.cells #[.int .u64 0, .int .u64 0, .int .u64 0, .int .u64 0] 24)).alloc (.cells (madeCells #[.int .i64 0] 40) 3) = W0 := ⟨_, rfl⟩
              rw [hW0] at A1 X0 B0 ⊢
              clear hW0 hmk
              go_loopw [7] (fun q wr => ∃ (i m : Nat) (z : Nat → Int), i ≤ s.size ∧ q = .int .i64 (i : Int) ∧ numFrom decK 0 (s.data.toList.take i) = some m ∧ valI z 40 = (m : Int) ∧ (∀ j, 0 ≤ z j ∧ z j < 256) ∧ IntsAt wr (w.heap.size + 1) 40 z ∧ Arr4 wr w.heap.size 24 (fun _ => 0) ∧ Below w.heap.size w wr) (fun q _ => s.size - (intOf q).toNat)
              case atStart => exact ⟨0, 0, _, by omega, rfl, rfl, valI_zero 40, fun _ => ⟨by omega, by omega⟩, X0, A1, B0⟩
              case round =>
                obtain ⟨i, m, z, hi, rfl, hnum, hval, hz, xx, aa, hB⟩ := hrel
                clear A1 X0 B0
                by_cases hlt : i < s.size
                · have hiI : (i : Int) < (s.size : Int) := by omega
                  have hi0 : (0 : Int) ≤ (i : Int) := by omega
                  have hsn := numFrom_snoc decK (s.data.toList.take i) s[i]
                  rw [← take_snoc s i hlt, hnum] at hsn
                  have hdg := HDIG.out s[i]
                  have hkb := HKB.out s[i]
                  cases hd : decK.dig s[i] with
                  | none =>
                    have hdv : dV decK s[i] = -1 := by unfold dV; rw [hd]
                    rw [hdv] at hdg
                    have HE : Hid (wordIf (numFrom decK 0 s.data.toList) = errV) := by
                      show _ = _
                      rw [numFrom_bad decK s i hlt hd]
                      rfl
                    have hx := Lib.hid xx
                    clear hi hnum hval hz hsn hkb hd hdv xx
                    go_wp2_with fail
                    refine (hdg _).mono ?_
                    rintro e w5 ⟨rfl, q⟩
                    have aa := aa.later' q
                    have hB := hB.trans (q.mono hB.size)
                    have f0 := aa.frozen 0
                    have f1 := aa.frozen 1
                    have f2 := aa.frozen 2
                    have f3 := aa.frozen 3
                    have d0 := aa.cell (j := 0) (by omega)
                    have d1 := aa.cell (j := 1) (by omega)
                    have d2 := aa.cell (j := 2) (by omega)
                    have d3 := aa.cell (j := 3) (by omega)
                    have HA := Lib.hid aa
                    have HB := Lib.hid hB
                    clear q aa hB hdg
                    go_wp2
                    refine bodyPost_ret (results_wordE rfl rfl (HA.out.store (fun _ => 0))) rfl ⟨by rw [HV.out, HE.out]; rfl, ?_⟩
                    exact (((HB.out.setCell (p := ⟨w.heap.size, 0, none⟩) (by simp) _).setCell (p := ⟨w.heap.size, 1, none⟩) (by simp) _).setCell (p := ⟨w.heap.size, 2, none⟩) (by simp) _).setCell (p := ⟨w.heap.size, 3, none⟩) (by simp) _
                  | some v =>
                    have hdv : dV decK s[i] = (v : Int) := by unfold dV; rw [hd]
                    rw [hdv] at hdg
                    have hv16 := hkb v hd
                    have hv0 : (0 : Int) ≤ (v : Int) := by omega
                    have hv1 : (v : Int) < 16 := by omega
                    rw [hd] at hsn
                    simp only [Option.bind_some, Option.map_some] at hsn
                    have hm' : m * decK.base + v < 2135987035920910082395021706169552114602704522356652769947041607822219725780640550022962086936576 := by
                      have h1 := numFrom_lt decK _ _ _ hsn
                      have h2 : (s.data.toList.take (i + 1)).length ≤ 78 := by have := HS.out; have := HL.out; rw [List.length_take]; omega
                      have h3 : decK.base ^ (s.data.toList.take (i + 1)).length ≤ decK.base ^ 78 := Nat.pow_le_pow_right (by decide) h2
                      have h4 : decK.base ^ 78 < 2135987035920910082395021706169552114602704522356652769947041607822219725780640550022962086936576 := by decide
                      omega
                    have HVAL : Hid (valI (rD (muD z 10 (v : Int))) 40 = ((m * decK.base + v : Nat) : Int)) := mul_digit z 10 v m (m * decK.base + v) hz ⟨by omega, by omega⟩ ⟨hv0, hv1⟩ hval (by rw [Int.natCast_add, Int.natCast_mul]; rfl) hm'
                    have HMB := Lib.hid (muC_bound z 10 (v : Int) hz ⟨by omega, by omega⟩ ⟨hv0, hv1⟩)
                    have HMS := Lib.hid (muC_step z 10 (v : Int))
                    have HSN := Lib.hid hsn
                    have HI := Lib.hid hlt
                    have HZ := Lib.hid hz
                    have HX := Lib.hid xx
                    clear hi hnum hval hz hsn hkb hd hdv hm' xx
                    go_wp2_with fail
                    refine (hdg _).mono ?_
                    rintro e w5 ⟨rfl, q⟩
                    have aa5 := aa.later' q
                    have hB5 := hB.trans (q.mono hB.size)
                    have xx5 := HX.out.later q
                    clear q hdg HX aa hB
                    obtain ⟨wo, rfl⟩ : ∃ wo : World, wo = wr := ⟨_, rfl⟩
                    go_wp2
                    go_loopw [8, 9] (fun c q wr => ∃ k : Nat, k ≤ 40 ∧ q = .int .i64 (k : Int) ∧ c = .int .i64 (muC z 10 (v : Int) k) ∧ IntsAt wr (w.heap.size + 1) 40 (fun j => if j < k then rD (muD z 10 (v : Int)) j else z j) ∧ Arr4 wr w.heap.size 24 (fun _ => 0) ∧ Below w.heap.size w wr) (fun _ q _ => 40 - (intOf q).toNat)
                    case atStart => exact ⟨0, by omega, rfl, rfl, xx5.congr (fun j _ => (if_neg (by omega)).symm), aa5, hB5⟩
                    case round =>
                      clear xx5 aa5 hB5
                      obtain ⟨k, hk, rfl, rfl, xx, aa, hB⟩ := hrel
                      by_cases hlt : k < 40
                      · have hkI : (k : Int) < 40 := by omega
                        have hk0 : (0 : Int) ≤ (k : Int) := by omega
                        obtain ⟨c0, c1, p0, p1⟩ := HMB.out k
                        obtain ⟨z0, z9⟩ := HZ.out k
                        obtain ⟨s1, s2⟩ := HMS.out k
                        have cc := xx.cell hlt
                        rw [if_neg (by omega)] at cc
                        have ff := xx.frozen k
                        have HC1 := Lib.hid s1
                        have N1 := Lib.hid (xx.set hlt ((muC z 10 (v : Int) k + z k * 10) % 256))
                        have N2 := Lib.hid (aa.other (p := ⟨w.heap.size + 1, k, none⟩) (by simp) (.int .i64 ((muC z 10 (v : Int) k + z k * 10) % 256)))
                        have N3 := Lib.hid (hB.setCell (p := ⟨w.heap.size + 1, k, none⟩) (by simp) (.int .i64 ((muC z 10 (v : Int) k + z k * 10) % 256)))
                        rw [← s2] at N1
                        have HK := Lib.hid hlt
                        have HRM := Lib.hid s2
                        have t1 : (muC z 10 (v : Int) k + z k * 10).tmod 256 = (muC z 10 (v : Int) k + z k * 10) % 256 := Int.tmod_eq_emod_of_nonneg (by omega)
                        have t2 : (muC z 10 (v : Int) k + z k * 10).tdiv 256 = (muC z 10 (v : Int) k + z k * 10) / 256 := Int.tdiv_eq_ediv_of_nonneg (by omega)
                        have t3 : 0 ≤ (muC z 10 (v : Int) k + z k * 10) % 256 := by omega
                        have t4 : (muC z 10 (v : Int) k + z k * 10) % 256 < 256 := by omega
                        have t5 : 0 ≤ (muC z 10 (v : Int) k + z k * 10) / 256 := by omega
                        have t6 : (muC z 10 (v : Int) k + z k * 10) / 256 ≤ 16 := by omega
                        rw [s2] at N1
                        clear hk hlt xx aa hB s1 s2
                        generalize muC z 10 (v : Int) k = cv at *
                        generalize hzk : z k = zk at *
                        generalize hxy : cv + zk * 10 = xy at *
                        generalize xy % 256 = ym at *
                        generalize xy / 256 = yd at *
                        go_wp2
                        go_roundw
                        case rel =>
                          refine ⟨k + 1, HK.out, by simp, by rw [HC1.out], N1.out.congr (fun j _ => ?_), N2.out, N3.out⟩
                          by_cases h1 : j = k
                          · subst h1
                            rw [if_pos rfl, if_pos (by omega)]
                            exact HRM.out.symm
                          · rw [if_neg h1]
                            by_cases h2 : j < k
                            · rw [if_pos h2, if_pos (by omega)]
                            · rw [if_neg h2, if_neg (by omega)]
                        case measure => have := HK.out; simp [intOf]; omega
                      · obtain rfl : k = 40 := by omega
                        have N1 := Lib.hid (xx.congr (e := rD (muD z 10 (v : Int))) (fun j hj => if_pos hj))
                        have N2 := Lib.hid aa
                        have N3 := Lib.hid hB
                        clear hk hlt xx aa hB
                        go_wp2
                        go_roundw
                        case rel => exact ⟨i + 1, m * decK.base + v, _, HI.out, by simp, HSN.out, HVAL.out, fun j => rD_range _ j, N1.out, N2.out, N3.out⟩
                        case measure => have := HI.out; simp [intOf]; omega
                · obtain rfl : i = s.size := by omega
                  have hfull : s.data.toList.take s.size = s.data.toList := List.take_of_length_le (by rw [HL.out]; exact Nat.le_refl _)
                  rw [hfull] at hnum
                  have HNUM := Lib.hid hnum
                  have HVAL := Lib.hid hval
                  have HZ := Lib.hid hz
                  have N1 := Lib.hid xx
                  have N2 := Lib.hid aa
                  have N3 := Lib.hid hB
                  clear hi hlt hfull hnum hval hz xx aa hB HDIG HKB
                  obtain ⟨wo, rfl⟩ : ∃ wo : World, wo = wr := ⟨_, rfl⟩
                  go_wp2
                  go_loopw [10] (fun q wr => ∃ k : Nat, 32 ≤ k ∧ k ≤ 40 ∧ q = .int .i64 (k : Int) ∧ (∀ j, 32 ≤ j → j < k → z j = 0) ∧ IntsAt wr (w.heap.size + 1) 40 z ∧ Arr4 wr w.heap.size 24 (fun _ => 0) ∧ Below w.heap.size w wr) (fun q _ => 40 - (intOf q).toNat)
                  case atStart => exact ⟨32, by omega, by omega, rfl, fun j h1 h2 => by omega, N1.out, N2.out, N3.out⟩
                  case round =>
                    clear N1 N2 N3
                    obtain ⟨k, hk32, hk, rfl, h0, xx, aa, hB⟩ := hrel
                    by_cases hlt : k < 40
                    · have hkI : (k : Int) < 40 := by omega
                      have hk0 : (0 : Int) ≤ (k : Int) := by omega
                      have cc := xx.cell hlt
                      by_cases hzk : z k = 0
                      · rw [hzk] at cc
                        have H0 := Lib.hid h0
                        have HZK := Lib.hid hzk
                        have HK := Lib.hid (And.intro hk32 hlt)
                        have N1 := Lib.hid xx
                        have N2 := Lib.hid aa
                        have N3 := Lib.hid hB
                        clear hk32 hk h0 hlt xx aa hB hzk
                        go_wp2
                        go_roundw
                        case rel => exact ⟨k + 1, by have := HK.out; omega, by have := HK.out; omega, by simp, fun j h1 h2 => by
                          by_cases e : j = k
                          · rw [e]; exact HZK.out
                          · exact H0.out j h1 (by omega), N1.out, N2.out, N3.out⟩
                        case measure => have := HK.out; simp [intOf]; omega
                      · have HE : Hid (wordIf (numFrom decK 0 s.data.toList) = errV) := by
                          show _ = _
                          rw [HNUM.out]
                          unfold wordIf
                          exact if_neg (forty_high z m k HVAL.out HZ.out hk32 hlt hzk)
                        have hzb : (z k != 0) = true := by simpa using hzk
                        have f0 := aa.frozen 0
                        have f1 := aa.frozen 1
                        have f2 := aa.frozen 2
                        have f3 := aa.frozen 3
                        have d0 := aa.cell (j := 0) (by omega)
                        have d1 := aa.cell (j := 1) (by omega)
                        have d2 := aa.cell (j := 2) (by omega)
                        have d3 := aa.cell (j := 3) (by omega)
                        have HA := Lib.hid aa
                        have HB := Lib.hid hB
                        clear hk32 hk h0 hlt xx aa hB
                        generalize z k = zk at *
                        go_wp2
                        refine bodyPost_ret (results_wordE rfl rfl (HA.out.store (fun _ => 0))) rfl ⟨by rw [HV.out, HE.out]; rfl, ?_⟩
                        exact (((HB.out.setCell (p := ⟨w.heap.size, 0, none⟩) (by simp) _).setCell (p := ⟨w.heap.size, 1, none⟩) (by simp) _).setCell (p := ⟨w.heap.size, 2, none⟩) (by simp) _).setCell (p := ⟨w.heap.size, 3, none⟩) (by simp) _
                    · obtain rfl : k = 40 := by omega
                      obtain ⟨g1, g2⟩ := forty_low z m HVAL.out HZ.out h0
                      have HE : Hid (wordIf (numFrom decK 0 s.data.toList) = .tuple #[.agg #[.int .u64 (lim m 0), .int .u64 (lim m 1), .int .u64 (lim m 2), .int .u64 (lim m 3)], .int .i64 0]) := by
                        show _ = _
                        rw [HNUM.out]
                        unfold wordIf
                        exact if_pos g2
                      have DD := fromDigits_any (cut40 z) (cut40_range z HZ.out) 40 (w.heap.size + 1) 40 (by omega) (fun j hj => if_neg (by omega)) wr (xx.congr (fun j hj => (if_pos hj).symm))
                      rw [g1] at DD
                      have N2 := Lib.hid aa
                      have N3 := Lib.hid hB
                      clear hk32 hk h0 hlt xx aa hB g1 g2 HZ HVAL HNUM
                      unfold wv at DD
                      go_wp2_with fail
                      refine DD.mono ?_
                      rintro e w6 ⟨rfl, q⟩
                      have aa := N2.out.later' q
                      have hB := N3.out.trans (q.mono N3.out.size)
                      have f0 := aa.frozen 0
                      have f1 := aa.frozen 1
                      have f2 := aa.frozen 2
                      have f3 := aa.frozen 3
                      have d0 := aa.cell (j := 0) (by omega)
                      have d1 := aa.cell (j := 1) (by omega)
                      have d2 := aa.cell (j := 2) (by omega)
                      have d3 := aa.cell (j := 3) (by omega)
                      have HA := Lib.hid aa
                      have HB := Lib.hid hB
                      clear q DD N2 N3 aa hB
                      go_wp2
                      refine bodyPost_ret (results_wordE rfl rfl (HA.out.store (lim m))) rfl ⟨by rw [HV.out, HE.out]; rfl, ?_⟩
                      exact (((HB.out.setCell (p := ⟨w.heap.size, 0, none⟩) (by simp) _).setCell (p := ⟨w.heap.size, 1, none⟩) (by simp) _).setCell (p := ⟨w.heap.size, 2, none⟩) (by simp) _).setCell (p := ⟨w.heap.size, 3, none⟩) (by simp) _
end Go.Proofs.YtgejdkiehcpinaaDoor
