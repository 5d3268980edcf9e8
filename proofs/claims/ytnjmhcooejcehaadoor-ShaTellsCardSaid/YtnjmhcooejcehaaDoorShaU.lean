/- The reference's lists of roots, and its pad. -/
import Derived.Test.YtnjmhcooejcehaaDoorShaT
import Derived.Laws.AppendOwnNone
namespace Go.Proofs.YtnjmhcooejcehaaDoor
open Go Go.RowKit Go.Shelf
attribute [local go_sem] Oper.semAt_some Grows wide_fn

set_option maxRecDepth 100000 in
set_option maxHeartbeats 8000000 in
theorem roots_any (M : Nat) (c : Bool) (hM0 : 0 < M) (hM : M ≤ 64) (w : World) :
    Calls Tryd.prog 28 #[.int .i64 (M : Int), .bool c] w fun e w' => ∃ h k, e = .returned (.slice (some ⟨h, 0, none⟩) M k) ∧ w.heap.size ≤ h ∧ RowAt w' h M (fun i => rtN (pr i) c) ∧ Below w.heap.size w w' := by
  have hMI : (M : Int) ≤ 64 := by omega
  have HRT := Lib.hid (fun i (hi : i < 64) => root_ret (pr i) c (by have : 2 ≤ pr i ∧ pr i < 312 := pr_pos ⟨i, hi⟩; omega))
  have HLT : Hid (∀ i, rtN (pr i) c < 4294967296) := Lib.hid (fun i => Nat.mod_lt _ (by omega))
  generalize hF : (fun i => rtN (pr i) c) = F at *
  have HF : Hid (∀ i, rtN (pr i) c = F i) := Lib.hid (fun i => by rw [← hF])
  clear hF
  go_enter Tryd.func28, Tryd.ntmps28
  go_wp2_with fail
  refine (primes_any M hM0 hM w).mono ?_
  rintro e w1 ⟨gp, cp, rfl, hgp, RP, q⟩
  have hgl := RP.lt
  have HBW := Lib.hid q.size
  have RN : w1.ownsRow w1.heap.size 3 1 (.slice none 0 0) 0 (rowI F 0) := World.ownsRow_nil _ _ 3 1
  have Q := Lib.hid q
  have HRP := Lib.hid RP
  clear q RP
  generalize hbase : w1.heap.size = base at RN HBW hgl
  have hsz : base ≤ w1.heap.size := by omega
  clear hbase
  go_wp2_with fail
  go_loopw [6, 7] (fun t i wr => ∃ k : Nat, k ≤ M ∧ i = .int .i64 (k : Int) ∧ wr.ownsRow base 3 1 t k (rowI F k) ∧ RowAt wr gp M pr ∧ Below w.heap.size w wr ∧ base ≤ wr.heap.size) (fun _ i _ => M - (intOf i).toNat)
  case atStart => exact ⟨0, by omega, rfl, RN, HRP.out, Q.out, hsz⟩
  case round =>
    clear RN HRP Q hsz
    obtain ⟨k, hk, rfl, R, P, Q, hsz⟩ := hrel
    by_cases hlt : k < M
    · have hkI : (k : Int) < (M : Int) := by omega
      have hk0 : (0 : Int) ≤ (k : Int) := by omega
      obtain ⟨o3, cap3, rfl⟩ := row_form R
      have kp := P.cellsAt k hlt
      have HC := Lib.hid (HRT.out k (by omega))
      have HS := Lib.hid (rowI_succ F k)
      rw [← HF.out k] at HS
      have hl := HLT.out k
      generalize rtN (pr k) c = v at *
      generalize pr k = p at *
      have hvI : (v : Int) < 4294967296 := by omega
      have HR := Lib.hid R
      have HP := Lib.hid P
      have HQ := Lib.hid Q
      have HZ := Lib.hid hsz
      have HLM := Lib.hid hlt
      obtain ⟨i0, hi, hz0', hz1, hz2⟩ := info_parts infoI
      clear R P Q hsz hk hlt hl
      go_wp2_with fail
      refine (HC.out _).mono ?_
      rintro e w2 ⟨rfl, q⟩
      replace HR := Lib.hid (owns_below HR.out q)
      replace HP := Lib.hid (HP.out.later q)
      replace HQ := Lib.hid (HQ.out.trans (q.mono HQ.out.size))
      replace HZ := Lib.hid (Nat.le_trans HZ.out q.size)
      clear q kp
      go_wp2_with (at_builtin; refine wpList_append_own _ rfl _ _ 36 rfl base 3 i0 (.int .i64 0) 1 8 Tryd.underlying36 hi hz0' hz1 hz2 rfl (by decide) _ _ _ rfl (HR.out.alloc _) ⟨w2.heap.size, 0, none⟩ 1 1 [.int .i64 (v : Int)] rfl rfl (cell_one _ _ _) (by simp [Value.oneCell']) (by unfold maxLen; have := HLM.out; omega) (by have := HLM.out; omega) (by have := HZ.out; simp; omega) ?_; intro v' w3 hown' hgrow hnil)
      clear hi hz0' hz1 hz2
      go_wp2_with fail
      go_roundw
      case rel =>
        have hne := fun (r : Nat) e => ((HR.out.alloc (.cells #[.int .i64 (v : Int)] 3)).lt r e).1
        have h1 := HLM.out
        have h2 := HBW.out
        have h3 := hgrow.size
        have h4 := HZ.out
        refine ⟨k + 1, by omega, by simp, ?_, (HP.out.alloc _).kept hgrow (fun e => by have := hne _ e.symm; omega), (HQ.out.alloc HQ.out.size _).grown hgrow (by have := HQ.out.size; simp; omega) (fun j e => by have := hne j e; omega), by simp at h3; omega⟩
        rw [HS.out]
        exact hown'
      case measure => have := HLM.out; simp [intOf]; omega
    · obtain rfl : k = M := by omega
      obtain ⟨h, k2, rfl, hb, _, _, _, hR⟩ := owns_row (by omega) R
      have HR := Lib.hid (hR F rfl)
      have HQ := Lib.hid Q
      have HB := Lib.hid (Nat.le_trans HBW.out hb)
      clear R P Q hR
      go_wp2_with fail
      go_ret
      exact ⟨_, _, rfl, HB.out, HR.out, HQ.out⟩

/-! ### Its pad -/
/-- How many noughts stand behind the end. -/
def zrN (n : Nat) : Nat := (119 - n % 64) % 64
/-- The bytes of the size, of which k are told. -/
def blL (S : Nat) : Nat → List Nat
  | 0 => []
  | k + 1 => (S / 256 ^ k % 256) :: blL S k
theorem blL_length (S : Nat) : ∀ k, (blL S k).length = k
  | 0 => rfl
  | k + 1 => by rw [blL, List.length_cons, blL_length S k]
theorem blL_lt (S : Nat) : ∀ k, ∀ b ∈ blL S k, b < 256
  | 0, b, h => by cases h
  | k + 1, b, h => by
    rcases List.mem_cons.1 h with rfl | h
    · exact Nat.mod_lt _ (by omega)
    · exact blL_lt S k b h
theorem blL_at (S : Nat) : ∀ k i, i < k → (blL S k)[i]? = some (S / 256 ^ (k - 1 - i) % 256)
  | k + 1, 0, _ => by simp [blL]
  | k + 1, i + 1, h => by
    rw [blL, List.getElem?_cons_succ, blL_at S k i (by omega), show k + 1 - 1 - (i + 1) = k - 1 - i by omega]
def zlL (s : ByteArray) (k : Nat) : List UInt8 := s.data.toList ++ [128] ++ List.replicate k 0
def padT (s : ByteArray) : ByteArray := ⟨(zlL s (zrN s.size) ++ (blL (8 * s.size) 8).map UInt8.ofNat).toArray⟩
def valU (S k : Nat) : List Value := (blL S k).map fun b => Value.int .u8 ((b : Nat) : Int)
theorem padT_size (s : ByteArray) : (padT s).size = 64 * nbN s.size := by
  show (zlL s (zrN s.size) ++ (blL (8 * s.size) 8).map UInt8.ofNat).toArray.size = _
  have : s.data.toList.length = s.size := by simp
  simp only [List.size_toArray, List.length_append, List.length_map, blL_length, zlL, List.length_replicate, List.length_cons, List.length_nil, this]
  unfold zrN nbN
  omega
theorem padT_at (s : ByteArray) (j : Nat) (hj : j < 64 * nbN s.size) : byN (padT s) j = padN s j := by
  have hl : s.data.toList.length = s.size := by simp
  have hb : byN (padT s) j = ((zlL s (zrN s.size) ++ (blL (8 * s.size) 8).map UInt8.ofNat).getD j 0).toNat := by
    unfold byN padT
    rw [Array.getD_eq_getD_getElem?, List.getD_eq_getElem?_getD, List.getElem?_toArray]
  rw [hb]
  have hn : 64 * nbN s.size = s.size + 1 + zrN s.size + 8 := by unfold zrN nbN; omega
  have hzl : (zlL s (zrN s.size)).length = s.size + 1 + zrN s.size := by simp [zlL]; omega
  unfold padN pdK
  rw [List.getD_eq_getElem?_getD]
  by_cases h1 : j < s.size
  · rw [if_pos h1, List.getElem?_append_left (by omega)]
    unfold zlL byN
    rw [List.append_assoc, List.getElem?_append_left (by omega), Array.getElem?_toList, Array.getD_eq_getD_getElem?]
  · rw [if_neg h1]
    by_cases h2 : j = s.size
    · rw [if_pos h2, List.getElem?_append_left (by omega)]
      unfold zlL
      rw [List.append_assoc, List.getElem?_append_right (by omega), h2, hl, Nat.sub_self]
      rfl
    · rw [if_neg h2]
      by_cases h3 : 64 * nbN s.size - 8 ≤ j
      · rw [if_pos h3, List.getElem?_append_right (by omega), hzl, List.getElem?_map, blL_at _ _ _ (by omega)]
        have he : 8 - 1 - (j - (s.size + 1 + zrN s.size)) = 64 * nbN s.size - 1 - j := by omega
        rw [he, show 256 = 2 ^ 8 from rfl, ← Nat.pow_mul]
        show (UInt8.ofNat (8 * s.size / 2 ^ (8 * (64 * nbN s.size - 1 - j)) % 256)).toNat = _
        rw [UInt8.toNat_ofNat', Nat.mod_eq_of_lt (Nat.mod_lt _ (by decide))]
      · rw [if_neg h3, List.getElem?_append_left (by omega)]
        unfold zlL
        rw [List.getElem?_append_right (by simp; omega), List.getElem?_replicate]
        simp only [List.length_append, hl, List.length_cons, List.length_nil]
        rw [if_pos (by omega)]
        rfl
theorem conv_val {W : World} {base : Nat} {v : Value} {S k : Nat} (hk : 0 < k) (h : W.ownsRow base 5 1 v k (valU S k)) : (convert 26 9 v).run Tryd.prog W = .ok (.string ⟨((blL S k).map UInt8.ofNat).toArray⟩) W := by
  rcases h.2 with ⟨_, h0⟩ | ⟨g, cap, cur, rfl, _⟩
  · omega
  have hl : ((blL S k).map UInt8.ofNat).length = k := by rw [List.length_map, blL_length]
  have hc := h.cells (g := g) rfl
  have h2 := run_convert_bytes_back (P := Tryd.prog) W 26 9 5 ⟨g, 0, none⟩ cap ((blL S k).map UInt8.ofNat) Tryd.underlying26 Tryd.underlying5 Tryd.underlying9 (fun j hj => by
    have hj2 : j < (blL S k).length := by simpa using hj
    refine (hc j (.int .u8 (((blL S k)[j] : Nat) : Int)) ?_).trans ?_
    · unfold valU
      rw [List.getElem?_map, List.getElem?_eq_getElem hj2]
      rfl
    · congr 2
      simp only [List.getElem_map]
      rw [UInt8.toNat_ofNat', Nat.mod_eq_of_lt (blL_lt S k _ (List.getElem_mem hj2))])
  rw [hl] at h2
  exact h2

set_option maxRecDepth 100000 in
set_option maxHeartbeats 16000000 in
theorem refPad_ret (s : ByteArray) (hs : s.size ≤ 1048576) : Ret Tryd.prog 29 #[.string s] (.string (padT s)) := by
  intro w
  have hsI : (s.size : Int) ≤ 1048576 := by omega
  have HPT : Hid ((padT s).data.toList = zlL s (zrN s.size) ++ (blL (8 * s.size) 8).map UInt8.ofNat) := Lib.hid (by unfold padT; rfl)
  have HZ0 : Hid (zlL s 0 = s.data.toList ++ [128]) := Lib.hid (by unfold zlL; simp)
  have HZS : Hid (∀ k, zlL s (k + 1) = zlL s k ++ [0]) := Lib.hid (fun k => by unfold zlL; rw [List.replicate_succ', ← List.append_assoc])
  have HZL : Hid (∀ k, (zlL s k).length = s.size + 1 + k) := Lib.hid (fun k => by unfold zlL; simp; omega)
  have HK1 : Hid (∀ k, k < zrN s.size → (s.size + 1 + k) % 64 ≠ 56) := Lib.hid (fun k hk => by unfold zrN at hk; omega)
  have HK2 : Hid ((s.size + 1 + zrN s.size) % 64 = 56) := Lib.hid (by unfold zrN; omega)
  have HK3 : Hid (zrN s.size < 64) := Lib.hid (Nat.mod_lt _ (by omega))
  generalize zrN s.size = K at *
  go_enter Tryd.func29, Tryd.ntmps29
  have hpl : ¬ 9223372036854775807 < s.size + 1 := by omega
  go_wp2_with fail
  go_loopw [3] (fun t wr => ∃ (k : Nat) (o : ByteArray), k ≤ K ∧ t = .string o ∧ o.data.toList = zlL s k ∧ Below w.heap.size w wr) (fun t _ => match t with | .string o => s.size + 1 + K - o.size | _ => 0)
  case atStart => exact ⟨0, _, by omega, rfl, by rw [HZ0.out, ByteArray.data_append]; simp, Below.refl _ w⟩
  case round =>
    obtain ⟨k, o, hk, rfl, ho, hQ⟩ := hrel
    have HQ0 := Lib.hid hQ
    have hos : o.size = s.size + 1 + k := by
      have : o.data.toList.length = o.size := by simp
      rw [← this, ho, HZL.out]
    have hoI : (o.size : Int) ≤ 1048700 := by have := HK3.out; omega
    have hm : ((o.size : Nat) : Int).tmod 64 = ((o.size % 64 : Nat) : Int) := by rw [Int.tmod_eq_emod_of_nonneg (by omega)]; omega
    have HO := Lib.hid ho
    have HOS := Lib.hid hos
    have hpo : ¬ 9223372036854775807 < o.size + 1 := by omega
    by_cases hlt : k < K
    · have h56 := HK1.out k hlt
      rw [← hos] at h56
      have HLT := Lib.hid hlt
      generalize hr : o.size % 64 = r at *
      have h56I : (r : Int) ≠ 56 := by omega
      clear hr h56 hk hlt ho hos hQ
      go_wp2_with fail
      go_roundw
      case rel => exact ⟨k + 1, _, HLT.out, rfl, by rw [ByteArray.data_append, HZS.out, ← HO.out]; simp, HQ0.out⟩
      case measure =>
        have h1 := HLT.out
        have h2 := HOS.out
        show s.size + 1 + K - (o ++ ⟨#[0]⟩ : ByteArray).size < s.size + 1 + K - o.size
        rw [ByteArray.size_append]
        show s.size + 1 + K - (o.size + 1) < s.size + 1 + K - o.size
        omega
    · obtain rfl : k = K := by omega
      have h56 := HK2.out
      rw [← hos] at h56
      generalize hr : o.size % 64 = r at *
      have h56I : (r : Int) = 56 := by omega
      clear hr h56 hk hlt ho hos hQ
      have RN : wr.ownsRow w.heap.size 5 1 (.slice none 0 0) 0 (valU (8 * s.size) 0) := World.ownsRow_nil _ _ 5 1
      have e8 : 8 * ((s.size : Nat) : Int) = ((8 * s.size / 256 ^ 0 : Nat) : Int) := by rw [Nat.pow_zero, Nat.div_one]; omega
      have h8I : 8 * s.size < 16777216 := by omega
      have HV : Hid (∀ k, valU (8 * s.size) (k + 1) = [.int .u8 ((8 * s.size / 256 ^ k % 256 : Nat) : Int)] ++ valU (8 * s.size) k) := Lib.hid (fun k => rfl)
      generalize 8 * s.size = S at *
      go_wp2_with fail
      go_loopw [4, 5, 6] (fun m b i wr => ∃ k : Nat, k ≤ 8 ∧ i = .int .i64 (k : Int) ∧ m = .int .i64 ((S / 256 ^ k : Nat) : Int) ∧ wr.ownsRow w.heap.size 5 1 b k (valU S k) ∧ Below w.heap.size w wr) (fun _ _ i _ => 8 - (intOf i).toNat)
      case atStart => exact ⟨0, by omega, rfl, by rw [Nat.pow_zero, Nat.div_one], RN, HQ0.out⟩
      case round =>
        clear RN e8
        obtain ⟨k, hk, rfl, rfl, R, Q⟩ := hrel
        by_cases hk8 : k < 8
        · have hkI : (k : Int) < 8 := by omega
          have hk0 : (0 : Int) ≤ (k : Int) := by omega
          obtain ⟨o5, cap5, rfl⟩ := row_form R
          have hlz : S / 256 ^ k < 16777216 := Nat.lt_of_le_of_lt (Nat.div_le_self _ _) h8I
          have HS := Lib.hid (HV.out k)
          have HN1 : Hid (S / 256 ^ (k + 1) = S / 256 ^ k / 256) := Lib.hid (by rw [Nat.pow_succ, ← Nat.div_div_eq_div_mul])
          generalize S / 256 ^ k = n0 at *
          have e1 : ((n0 : Nat) : Int).tmod 256 = ((n0 % 256 : Nat) : Int) := by rw [Int.tmod_eq_emod_of_nonneg (by omega)]; omega
          have e2 : ((n0 : Nat) : Int).tdiv 256 = ((n0 / 256 : Nat) : Int) := by rw [Int.tdiv_eq_ediv_of_nonneg (by omega)]; omega
          have e5 : IntKind.u8.wrap ((n0 % 256 : Nat) : Int) = ((n0 % 256 : Nat) : Int) := by rw [IntKind.wrap_u8']; omega
          have hv1 : n0 % 256 < 256 := Nat.mod_lt _ (by omega)
          have hn1 : n0 / 256 < 16777216 := by omega
          generalize n0 % 256 = b at *
          generalize n0 / 256 = n1 at *
          have hn1I : (n1 : Int) < 16777216 := by omega
          have hn0I : (n0 : Int) < 16777216 := by omega
          have hbI : (b : Int) < 256 := by omega
          have HLT := Lib.hid hk8
          have HRow := Lib.hid R
          have HQ := Lib.hid Q
          have HZ := Lib.hid Q.size
          have hone : ∀ u ∈ valU S k, u.oneCell' = true := fun u hu => by
            unfold valU at hu
            obtain ⟨x, _, rfl⟩ := List.mem_map.1 hu
            rfl
          have HONE := Lib.hid hone
          have HLEN : Hid ((valU S k).length = k * 1) := Lib.hid (by unfold valU; rw [List.length_map, blL_length, Nat.mul_one])
          obtain ⟨i0, hi, hz0', hz1, hz2⟩ := info_parts infoB
          clear Q hlz hv1 hn1 hone hk hk8
          rcases R.2 with ⟨hv, h0⟩ | ⟨g, capg, cur, hv, _⟩
          · injection hv with h1 h2 h3
            subst h1 h3 h0
            clear R
            go_wp2_with (at_builtin; refine wpList_append_own_none rfl _ _ 26 rfl w.heap.size 5 i0 1 Tryd.underlying26 hi _ _ _ rfl (World.ownsRow_lit (base := w.heap.size) wr #[.int .u8 (b : Int)] 1 HZ.out (by unfold maxLen; omega) rfl) rfl ?_)
            have HOW := Lib.hid (World.ownsRow_lit (base := w.heap.size) (e := 5) (size := 1) wr #[.int .u8 (b : Int)] 1 HZ.out (by unfold maxLen; omega) rfl)
            have HQ2 := Lib.hid (HQ.out.alloc HQ.out.size (.cells #[.int .u8 (b : Int)] 5))
            go_wp2_with fail
            go_roundw
            case rel => exact ⟨1, by omega, by simp, by rw [HN1.out], by rw [HS.out]; exact HOW.out, HQ2.out⟩
            case measure => simp [intOf]
          · injection hv with h1 h2 h3
            subst h1 h3
            have HN := Lib.hid (fun (W : World) (hb : Below wr.heap.size wr W) => (owns_below R hb).cells (g := g) rfl)
            clear R
            go_wp2_with (at_builtin; refine wpList_append_own_at _ rfl _ _ 26 rfl w.heap.size 5 i0 (.int .u8 0) 1 1 Tryd.underlying26 hi hz0' hz1 hz2 rfl (by decide) _ _ _ rfl (World.ownsRow_lit (base := w.heap.size) wr #[.int .u8 (b : Int)] 1 HZ.out (by unfold maxLen; omega) rfl) ⟨g, 0, none⟩ k cap5 (valU S k) rfl HLEN.out (HN.out _ ((Below.refl _ wr).alloc (Nat.le_refl _) _)) HONE.out (by unfold maxLen; have := HLT.out; omega) (by have := HLT.out; omega) (by have := HZ.out; simp; omega) ?_; intro v' w3 hown' hgrow _ _)
            have hgrow : (wr.alloc (.cells #[.int .u8 (b : Int)] 5)).grownBy w3 (some wr.heap.size) := hgrow
            rw [show (#[Value.int .u8 (b : Int)] : Array Value).toList ++ valU S k = valU S (k + 1) from HS.out.symm, Nat.add_comm] at hown'
            have HOW := Lib.hid hown'
            have HQ2 := Lib.hid ((HQ.out.alloc HQ.out.size (.cells #[.int .u8 (b : Int)] 5)).grown hgrow (by have := HQ.out.size; simp; omega) (fun j e => by have := Option.some.inj e; have := HQ.out.size; omega))
            clear hi hz0' hz1 hz2 hgrow hown'
            go_wp2_with fail
            go_roundw
            case rel => exact ⟨k + 1, by have := HLT.out; omega, by simp, by rw [HN1.out], HOW.out, HQ2.out⟩
            case measure => simp [intOf]; have := HLT.out; omega
        · obtain rfl : k = 8 := by omega
          simp only [Int.cast_ofNat_Int]
          have hcv := conv_val (by omega) R
          obtain ⟨o5, cap5, rfl⟩ := row_form R
          have HQ := Lib.hid Q
          have HL8 := Lib.hid (blL_length S 8)
          clear R Q hk hk8
          obtain ⟨out, hout⟩ : ∃ out : ByteArray, (⟨((blL S 8).map UInt8.ofNat).toArray⟩ : ByteArray) = out := ⟨_, rfl⟩
          rw [hout] at hcv
          have hol : out.data.toList = (blL S 8).map UInt8.ofNat := by rw [← hout]
          have hos2 : out.size = 8 := by
            have : out.data.toList.length = out.size := by simp
            rw [← this, hol, List.length_map, HL8.out]
          have hpf : ¬ 9223372036854775807 < o.size + out.size := by omega
          have HE : Hid (padT s = o ++ out) := Lib.hid (by
            apply ByteArray.ext
            apply Array.toList_inj.1
            rw [HPT.out, ByteArray.data_append, Array.toList_append, HO.out, hol])
          clear hol hout hos2
          go_wp2_with fail
          go_ret
          rw [HE.out]
          exact ⟨rfl, HQ.out⟩
end Go.Proofs.YtnjmhcooejcehaaDoor
