import Derived.Test.YtadfkiebblmfkaaGreatDoorS36
/- StateMost. Condition: the table of the rounds' numbers lies in memory. -/
namespace Go.Proofs.YtadfkiebblmfkaaGreatDoor
open Go Go.RowKit
attribute [local go_sem] Oper.semAt_some Grows wide_fn

theorem pick8_ret (c : Int) (hc : I64 c) (m : Int) (hm : 0 < m) (hm2 : m ≤ 4611686018427387903) : Ret Tryz.prog 11 #[.int .i64 c, .int .i64 m] (.int .i64 (pickN c m)) := by
  refine Ret.of_same fun w => ?_
  unfold I64 at hc
  unfold pickN
  by_cases h : c < 0
  · rw [if_pos h]
    have h0 : (0 : Int) ≤ -(c + 1) := by omega
    have h1 : -(c + 1) < 9223372036854775808 := by omega
    have q0 := Int.emod_nonneg (-(c + 1)) (show m ≠ 0 by omega)
    have q1 := Int.emod_lt_of_pos (-(c + 1)) hm
    have e := Int.tmod_eq_emod_of_nonneg h0 (b := m)
    go_enter Tryz.func11, Tryz.ntmps11
    go_wp2
    go_ret
    exact ⟨rfl, rfl⟩
  · rw [if_neg h]
    have q0 := Int.emod_nonneg c (show m ≠ 0 by omega)
    have q1 := Int.emod_lt_of_pos c hm
    have e := Int.tmod_eq_emod_of_nonneg (show 0 ≤ c by omega) (b := m)
    go_enter Tryz.func11, Tryz.ntmps11
    go_wp2
    go_ret
    exact ⟨rfl, rfl⟩


def aM (i : Nat) : Nat := 256 ^ 19 + i * 256 ^ 18
def acM (i : Nat) : Ac := ⟨aM i, 0, 1, ⟨#[]⟩, []⟩
def lM (n : Nat) : List Ac := (List.range n).map acM
def pM (n : Nat) : List Pa := (List.range n).map fun i => (acM i, .slice none 0 0)
def chM (k v : Nat) : Ch := ⟨2, aM k, 0, 0, (v : Int), ⟨#[]⟩⟩
theorem aM_lt {i : Nat} (h : i < 256) : aM i < 256 ^ 20 := by unfold aM; omega
theorem aM_mono {i j : Nat} (h : i < j) : aM i < aM j := by unfold aM; omega
theorem aM_inj {i j : Nat} (h : aM i = aM j) : i = j := by unfold aM at h; omega
theorem adC_aM (i : Nat) (h : i < 256) : adC (aM i) = #[.int .u8 1, .int .u8 (i : Int), .int .u8 0, .int .u8 0, .int .u8 0, .int .u8 0, .int .u8 0, .int .u8 0, .int .u8 0, .int .u8 0, .int .u8 0, .int .u8 0, .int .u8 0, .int .u8 0, .int .u8 0, .int .u8 0, .int .u8 0, .int .u8 0, .int .u8 0, .int .u8 0] := by
  unfold adC adL
  rw [show List.range 20 = [0, 1, 2, 3, 4, 5, 6, 7, 8, 9, 10, 11, 12, 13, 14, 15, 16, 17, 18, 19] from rfl]
  simp only [List.map_cons, List.map_nil]
  have e0 : adB (aM i) 0 = 1 := by unfold adB aM; omega
  have e1 : adB (aM i) 1 = i := by unfold adB aM; omega
  have e2 : adB (aM i) 2 = 0 := by unfold adB aM; omega
  have e3 : adB (aM i) 3 = 0 := by unfold adB aM; omega
  have e4 : adB (aM i) 4 = 0 := by unfold adB aM; omega
  have e5 : adB (aM i) 5 = 0 := by unfold adB aM; omega
  have e6 : adB (aM i) 6 = 0 := by unfold adB aM; omega
  have e7 : adB (aM i) 7 = 0 := by unfold adB aM; omega
  have e8 : adB (aM i) 8 = 0 := by unfold adB aM; omega
  have e9 : adB (aM i) 9 = 0 := by unfold adB aM; omega
  have e10 : adB (aM i) 10 = 0 := by unfold adB aM; omega
  have e11 : adB (aM i) 11 = 0 := by unfold adB aM; omega
  have e12 : adB (aM i) 12 = 0 := by unfold adB aM; omega
  have e13 : adB (aM i) 13 = 0 := by unfold adB aM; omega
  have e14 : adB (aM i) 14 = 0 := by unfold adB aM; omega
  have e15 : adB (aM i) 15 = 0 := by unfold adB aM; omega
  have e16 : adB (aM i) 16 = 0 := by unfold adB aM; omega
  have e17 : adB (aM i) 17 = 0 := by unfold adB aM; omega
  have e18 : adB (aM i) 18 = 0 := by unfold adB aM; omega
  have e19 : adB (aM i) 19 = 0 := by unfold adB aM; omega
  rw [e0, e1, e2, e3, e4, e5, e6, e7, e8, e9, e10, e11, e12, e13, e14, e15, e16, e17, e18, e19]
  rfl
theorem acM_cells (i : Nat) (h : i < 256) : acC (acM i) (.slice none 0 0) = #[.int .u8 1, .int .u8 (i : Int), .int .u8 0, .int .u8 0, .int .u8 0, .int .u8 0, .int .u8 0, .int .u8 0, .int .u8 0, .int .u8 0, .int .u8 0, .int .u8 0, .int .u8 0, .int .u8 0, .int .u8 0, .int .u8 0, .int .u8 0, .int .u8 0, .int .u8 0, .int .u8 0, .int .u64 0, .int .u64 0, .int .u64 0, .int .u64 0, .int .i64 1, .string { data := #[] }, .slice none 0 0] := by
  unfold acM acC acL
  rw [show adL (aM i) = (#[.int .u8 1, .int .u8 (i : Int), .int .u8 0, .int .u8 0, .int .u8 0, .int .u8 0, .int .u8 0, .int .u8 0, .int .u8 0, .int .u8 0, .int .u8 0, .int .u8 0, .int .u8 0, .int .u8 0, .int .u8 0, .int .u8 0, .int .u8 0, .int .u8 0, .int .u8 0, .int .u8 0] : Array Value).toList from congrArg Array.toList (adC_aM i h)]
  dsimp only
  simp only [lim_zero]
  rfl
theorem chM_cells (k v : Nat) (h : k < 256) : chC (chM k v) = #[.int .i64 2, .int .u8 1, .int .u8 (k : Int), .int .u8 0, .int .u8 0, .int .u8 0, .int .u8 0, .int .u8 0, .int .u8 0, .int .u8 0, .int .u8 0, .int .u8 0, .int .u8 0, .int .u8 0, .int .u8 0, .int .u8 0, .int .u8 0, .int .u8 0, .int .u8 0, .int .u8 0, .int .u8 0, .int .u64 0, .int .u64 0, .int .u64 0, .int .u64 0, .int .u64 0, .int .u64 0, .int .u64 0, .int .u64 0, .int .i64 (v : Int), .string { data := #[] }] := by
  unfold chM chC chL chT
  rw [show adL (aM k) = (#[.int .u8 1, .int .u8 (k : Int), .int .u8 0, .int .u8 0, .int .u8 0, .int .u8 0, .int .u8 0, .int .u8 0, .int .u8 0, .int .u8 0, .int .u8 0, .int .u8 0, .int .u8 0, .int .u8 0, .int .u8 0, .int .u8 0, .int .u8 0, .int .u8 0, .int .u8 0, .int .u8 0] : Array Value).toList from congrArg Array.toList (adC_aM k h)]
  dsimp only
  simp only [lim_zero]
  rfl
theorem lM_len (n : Nat) : (lM n).length = n := by simp [lM]
theorem pM_len (n : Nat) : (pM n).length = n := by simp [pM]
theorem pM_map (n : Nat) : (pM n).map (·.1) = lM n := by simp [pM, lM]
theorem pM_snoc (n : Nat) : pM (n + 1) = pM n ++ [(acM n, .slice none 0 0)] := by simp [pM, List.range_succ]
theorem lM_at {n i : Nat} {x : Ac} (h : (lM n)[i]? = some x) : i < n ∧ x = acM i := by
  unfold lM at h
  rw [List.getElem?_map] at h
  obtain ⟨j, hj, rfl⟩ := Option.map_eq_some_iff.1 h
  have h1 := (List.getElem?_eq_some_iff.1 hj).1
  rw [List.length_range] at h1
  rw [List.getElem?_range h1] at hj
  injection hj with hj
  exact ⟨h1, by rw [hj]⟩
theorem lM_get {n i : Nat} (h : i < n) : (lM n)[i]? = some (acM i) := by simp [lM, h]
theorem acM_ok {i : Nat} (h : i < 256) : AcOk (acM i) := ⟨aM_lt h, show W256 0 by unfold W256; decide, show I64 1 by unfold I64; decide, show (⟨#[]⟩ : ByteArray).size ≤ 140737488355328 by decide⟩
theorem lM_ups (n : Nat) : Ups (lM n) := by
  refine ups_at.2 fun j x y hx hy => ?_
  obtain ⟨_, rfl⟩ := lM_at hx
  obtain ⟨_, rfl⟩ := lM_at hy
  exact aM_mono (Nat.lt_succ_self _)
theorem stray_acM (i : Nat) : strayB (acM i) = false := by
  unfold strayB acM
  rw [may_ac _ _ _ _ rightB_none (by decide) (by decide)]
  unfold emptyB
  simp
theorem lM_right (n : Nat) : rightS (lM n) = decide (n ≤ 200) := by
  unfold rightS
  rw [(upsB_iff _).2 (lM_ups n), lM_len]
  have : (lM n).all (fun x => !strayB x) = true := by
    rw [List.all_eq_true]
    intro x hx
    obtain ⟨i, hi⟩ := List.getElem?_of_mem hx
    obtain ⟨_, rfl⟩ := lM_at hi
    rw [stray_acM]
    rfl
  rw [this]
  simp
theorem lM_slots (n : Nat) : ∀ y ∈ lM n, y.slots.length ≤ 100000 := by
  intro x hx
  obtain ⟨i, hi⟩ := List.getElem?_of_mem hx
  obtain ⟨_, rfl⟩ := lM_at hi
  exact Nat.zero_le _
theorem lM_seek (n k : Nat) : SeekP (lM n) (aM k) (min k n) := by
  refine ⟨by rw [lM_len]; omega, fun j x hj hx => ?_, fun j x hj hx => ?_⟩
  · obtain ⟨_, rfl⟩ := lM_at hx
    exact aM_mono (by omega)
  · obtain ⟨h1, rfl⟩ := lM_at hx
    rcases Nat.lt_or_eq_of_le (show k ≤ j by omega) with h | rfl
    · exact Nat.le_of_lt (aM_mono h)
    · exact Nat.le_refl _
theorem lM_find (n k : Nat) : findA (lM n) (aM k) = if k < n then acM k else ⟨aM k, 0, 0, ⟨#[]⟩, []⟩ := by
  split
  · rename_i h
    exact findA_hit (lM_get h) rfl (fun j y hj hy => by
      obtain ⟨_, rfl⟩ := lM_at hy
      intro e
      have := aM_inj e
      omega)
  · rename_i h
    exact findA_none (fun j y hy => by
      obtain ⟨h1, rfl⟩ := lM_at hy
      intro e
      have := aM_inj e
      omega)
def manyM (n k v : Nat) : Nat := n - (if k < n then 1 else 0) + (if v = 0 then 0 else 1)
theorem chgM (n k v : Nat) : chgX (findA (lM n) (chM k v).at_) (chM k v) = ⟨aM k, 0, (v : Int), ⟨#[]⟩, []⟩ ∧ chgE (findA (lM n) (chM k v).at_) (chM k v) = 0 := by
  rw [show (chM k v).at_ = aM k from rfl, lM_find]
  unfold chgX chgE
  have hk1 : ¬ (chM k v).kind = 1 := (show ¬ (2 : Int) = 1 by decide)
  have hk2 : (chM k v).kind = 2 := rfl
  simp only [if_neg hk1, if_pos hk2]
  refine ⟨?_, by trivial⟩
  split <;> rfl
theorem putM_len (n k v : Nat) : (putA (lM n) ⟨aM k, 0, (v : Int), ⟨#[]⟩, []⟩).length = manyM n k v := by
  have he : emptyB ⟨aM k, 0, (v : Int), ⟨#[]⟩, []⟩ = decide (v = 0) := by
    unfold emptyB
    by_cases h : v = 0
    · subst h; rfl
    · simp [h]
  by_cases hk : k < n
  · have := putA_seek (l := lM n) (x := ⟨aM k, 0, (v : Int), ⟨#[]⟩, []⟩) (lM_seek n k) (lM_ups n) 1 (.inl ⟨⟨acM k, by rw [Nat.min_eq_left (Nat.le_of_lt hk)]; exact lM_get hk, rfl⟩, rfl⟩)
    rw [this, he]
    unfold manyM
    rw [if_pos hk]
    simp only [List.length_append, List.length_take, List.length_drop, lM_len]
    by_cases h : v = 0
    · simp [h]; omega
    · simp [h]; omega
  · have := putA_seek (l := lM n) (x := ⟨aM k, 0, (v : Int), ⟨#[]⟩, []⟩) (lM_seek n k) (lM_ups n) 0 (.inr ⟨fun ⟨y, hy, _⟩ => by have := (lM_at hy).1; omega, rfl⟩)
    rw [this, he]
    unfold manyM
    rw [if_neg hk]
    simp only [List.length_append, List.length_take, List.length_drop, lM_len]
    by_cases h : v = 0
    · simp [h]; omega
    · simp [h]; omega
theorem doM (n k v : Nat) (hv : v < 2) : doE (lM n) (chM k v) = (if n ≤ 200 then (if manyM n k v ≤ 200 then 0 else 2) else 1) ∧ (doL (lM n) (chM k v)).length = (if n ≤ 200 then (if manyM n k v ≤ 200 then manyM n k v else n) else n) := by
  obtain ⟨h1, h2⟩ := chgM n k v
  have hm : mayB ⟨aM k, 0, (v : Int), ⟨#[]⟩, []⟩ = true := may_ac _ _ _ _ rightB_none (by omega) (by omega)
  have hE : doE (lM n) (chM k v) = (if n ≤ 200 then (if manyM n k v ≤ 200 then 0 else 2) else 1) := by
    unfold doE
    rw [lM_right, h1, h2, putM_len]
    by_cases h : n ≤ 200
    · rw [if_neg (by simp [h]), if_neg (by decide), if_neg (by rw [hm]; decide), if_pos h]
    · rw [if_pos (by simp [h]), if_neg h]
  refine ⟨hE, ?_⟩
  unfold doL
  rw [hE, h1]
  by_cases h : n ≤ 200
  · rw [if_pos h, if_pos h]
    by_cases h' : manyM n k v ≤ 200
    · rw [if_pos h', if_pos rfl, if_pos h', putM_len]
    · rw [if_neg h', if_neg (by decide), if_neg h', lM_len]
  · rw [if_neg h, if_neg (by decide), if_neg h, lM_len]
theorem chM_ok (k v : Nat) (hk : k < 256) (hv : v < 2) : ChOk (chM k v) := ⟨show I64 2 by unfold I64; decide, aM_lt hk, show W256 0 by unfold W256; decide, show W256 0 by unfold W256; decide, show I64 (v : Int) by unfold I64; omega, show (⟨#[]⟩ : ByteArray).size ≤ 140737488355328 by decide⟩
end Go.Proofs.YtadfkiebblmfkaaGreatDoor

/- StateMost. Condition: the table of the rounds' numbers lies in memory. -/
namespace Go.Proofs.YtadfkiebblmfkaaGreatDoor
open Go Go.RowKit
attribute [local go_sem] Oper.semAt_some Grows wide_fn

theorem row_st {w : World} {base : Nat} {v : Value} {m : Nat} (h : RowA w base v (pM m)) (hm : m ≤ 256) : StAt w v (lM m) := by
  rw [← pM_map]
  refine h.in.st (fun p hp => ?_)
  unfold pM at hp
  obtain ⟨i, hi, rfl⟩ := List.mem_map.1 hp
  exact ⟨acM_ok (by have := List.mem_range.1 hi; omega), SlotsAt.nil _⟩
set_option maxRecDepth 100000 in
set_option maxHeartbeats 8000000 in
theorem most8_any (W : World) (hT : Tab W) (less : Int) (hl : I64 less) (at_ : Int) (ha : I64 at_) (nonce : Int) (hn : I64 nonce) :
    Calls Tryz.prog 8 #[.int .i64 less, .int .i64 at_, .int .i64 nonce] W fun e w' => e = .returned (.bool true) ∧ Below W.heap.size W w' := by
  have hmx : Tryz.prog.follows .mixedOrders = true := by kernel_rfl
  have HAW := Lib.hid (awake_any W hT)
  have HP1 := Lib.hid (pick8_ret less hl 4 (by decide) (by decide))
  have HP2 := Lib.hid (pick8_ret at_ ha 256 (by decide) (by decide))
  have HP3 := Lib.hid (pick8_ret nonce hn 2 (by decide) (by decide))
  obtain ⟨p1, hp1, e1⟩ : ∃ p : Nat, p < 4 ∧ pickN less 4 = (p : Int) := by
    have := pickN_range less 4 (by decide)
    exact ⟨(pickN less 4).toNat, by omega, by omega⟩
  obtain ⟨k, hk, e2⟩ : ∃ p : Nat, p < 256 ∧ pickN at_ 256 = (p : Int) := by
    have := pickN_range at_ 256 (by decide)
    exact ⟨(pickN at_ 256).toNat, by omega, by omega⟩
  obtain ⟨v, hv, e3⟩ : ∃ p : Nat, p < 2 ∧ pickN nonce 2 = (p : Int) := by
    have := pickN_range nonce 2 (by decide)
    exact ⟨(pickN nonce 2).toNat, by omega, by omega⟩
  rw [e1] at HP1
  rw [e2] at HP2
  rw [e3] at HP3
  clear hT hl ha hn e1 e2 e3
  have hp1I : (p1 : Int) ≤ 3 := by omega
  have hp0I : (0 : Int) ≤ (p1 : Int) := by omega
  go_enter Tryz.func8, Tryz.ntmps8
  go_wp2_with fail
  refine HAW.out.mono ?_
  rintro _ w1 ⟨rfl, q1⟩
  have Q1 := Lib.hid q1
  clear q1 HAW
  go_wp2_with fail
  refine (HP1.out w1).mono ?_
  rintro _ w2 ⟨rfl, q2⟩
  have Q2 := Lib.hid (Q1.out.trans (q2.mono Q1.out.size))
  clear q2 HP1
  obtain ⟨n, hn⟩ : ∃ n : Nat, n = 198 + p1 := ⟨_, rfl⟩
  have hnI : (198 : Int) + (p1 : Int) = (n : Int) := by omega
  have HNP := Lib.hid (show n ≤ 201 by omega)
  clear hn
  go_wp2_with fail
  clear hnI hp1I hp0I
  have hnb : (n : Int) ≤ 201 := by have := HNP.out; omega
  have hn0 : (0 : Int) ≤ (n : Int) := by omega
  go_loopw [10, 9] (fun i s wr => ∃ m : Nat, m ≤ n ∧ i = .int .i64 (m : Int) ∧ RowA wr W.heap.size s (pM m) ∧ Below W.heap.size W wr) (fun i _ _ => n - (intOf i).toNat)
  case atStart => exact ⟨0, by omega, rfl, RowA.nil _ _, Q2.out⟩
  case round =>
    obtain ⟨m, hm, rfl, hrow, hq⟩ := hrel
    have HRO := Lib.hid hrow
    have HQ := Lib.hid hq
    clear hrow hq
    by_cases hmn : m < n
    · have hmI : (m : Int) < (n : Int) := by omega
      have hm0 : (0 : Int) ≤ (m : Int) := by omega
      have hmb : (m : Int) ≤ 200 := by omega
      have hm256 : m < 256 := by have := HNP.out; omega
      obtain ⟨v', w', happ, hrow', _, hbel⟩ := push_ac wr W.heap.size u9 (pM m) HRO.out HQ.out.size (by rw [pM_len]; omega) (acM m) (.slice none 0 0) rfl
      rw [acM_cells m hm256] at happ
      have R2 := Lib.hid (show RowA w' W.heap.size v' (pM (m + 1)) by rw [pM_snoc]; exact hrow')
      have Q3 := Lib.hid (HQ.out.trans hbel)
      have HC := Lib.hid (acM_cells m hm256)
      have HM := Lib.hid hmn
      have hw8 : (m : Int) % 256 = (m : Int) := by omega
      clear hrow' hbel hmn hm
      go_wp2_with (first | (refine wpList_build_ac rfl (.tmp 30) rfl (acM m) (.slice none 0 0) (by rw [HC.out]; rfl) ?_; rw [HC.out]) | (at_builtin; refine wpList_append_run rfl (.tmp 26) (.tmp 31) 22 rfl _ _ _ rfl rfl happ ?_))
      go_roundw
      case rel => exact ⟨m + 1, by have := HM.out; omega, by simp, R2.out, Q3.out⟩
      case measure => have := HM.out; simp [intOf]; omega
    · obtain rfl : m = n := by omega
      have hmm : ¬ (m : Int) < (m : Int) := by omega
      have ST := Lib.hid (row_st HRO.out (by have := HNP.out; omega))
      clear hmn hm
      go_wp2_with fail
      refine (HP2.out wr).mono ?_
      rintro _ w3 ⟨rfl, q3⟩
      have Q3 := Lib.hid (HQ.out.trans (q3.mono HQ.out.size))
      have P3 := Lib.hid q3
      clear q3 HP2
      go_wp2_with fail
      refine (HP3.out w3).mono ?_
      rintro _ w4 ⟨rfl, q4⟩
      have Q4 := Lib.hid (Q3.out.trans (q4.mono Q3.out.size))
      have P4 := Lib.hid (P3.out.trans (q4.mono P3.out.size))
      clear q4 HP3
      have hk8 : (k : Int) % 256 = (k : Int) := by omega
      have hk0 : (0 : Int) ≤ (k : Int) := by omega
      have hkb : (k : Int) ≤ 255 := by omega
      have hv0 : (0 : Int) ≤ (v : Int) := by omega
      have hvb : (v : Int) ≤ 1 := by omega
      have hmx8 : (m : Int) ≤ 201 := by omega
      have HDO := do_any w4 u9 (lM m) (ST.out.later P4.out) (by rw [lM_len]; have := HNP.out; omega) (lM_slots m) (chM k v) (chM_ok k v hk hv)
      rw [chM_cells k v hk] at HDO
      have HDO := Lib.hid HDO
      have HDM := Lib.hid (doM m k v hv)
      have HMN := Lib.hid (show manyM m k v = m - (if k < m then 1 else 0) + (if v = 0 then 0 else 1) from rfl)
      have HK := Lib.hid hk
      have HV := Lib.hid hv
      clear hk hv
      go_wp2_with fail
      refine HDO.out.mono ?_
      rintro _ w5 ⟨v5, rfl, k5, q5⟩
      clear HDO
      obtain ⟨a5, c5, rfl⟩ := k5.shape
      have Q5 := Lib.hid (Q4.out.trans (q5.mono Q4.out.size))
      have P5 := Lib.hid (P4.out.trans (q5.mono P4.out.size))
      have h6 := Has.new w5 33 #[.int .i64 0, .int .u8 0, .int .u8 0, .int .u8 0, .int .u8 0, .int .u8 0, .int .u8 0, .int .u8 0, .int .u8 0, .int .u8 0, .int .u8 0, .int .u8 0, .int .u8 0, .int .u8 0, .int .u8 0, .int .u8 0, .int .u8 0, .int .u8 0, .int .u8 0, .int .u8 0, .int .u8 0, .int .u64 0, .int .u64 0, .int .u64 0, .int .u64 0, .int .u64 0, .int .u64 0, .int .u64 0, .int .u64 0, .int .i64 0, .string { data := #[] }]
      have q6 := (Below.refl w5.heap.size w5).alloc (Nat.le_refl _) (.cells #[.int .i64 0, .int .u8 0, .int .u8 0, .int .u8 0, .int .u8 0, .int .u8 0, .int .u8 0, .int .u8 0, .int .u8 0, .int .u8 0, .int .u8 0, .int .u8 0, .int .u8 0, .int .u8 0, .int .u8 0, .int .u8 0, .int .u8 0, .int .u8 0, .int .u8 0, .int .u8 0, .int .u8 0, .int .u64 0, .int .u64 0, .int .u64 0, .int .u64 0, .int .u64 0, .int .u64 0, .int .u64 0, .int .u64 0, .int .i64 0, .string { data := #[] }] 33)
      obtain ⟨w6a, hWa⟩ : ∃ X, w5.alloc (.cells #[.int .i64 0, .int .u8 0, .int .u8 0, .int .u8 0, .int .u8 0, .int .u8 0, .int .u8 0, .int .u8 0, .int .u8 0, .int .u8 0, .int .u8 0, .int .u8 0, .int .u8 0, .int .u8 0, .int .u8 0, .int .u8 0, .int .u8 0, .int .u8 0, .int .u8 0, .int .u8 0, .int .u8 0, .int .u64 0, .int .u64 0, .int .u64 0, .int .u64 0, .int .u64 0, .int .u64 0, .int .u64 0, .int .u64 0, .int .i64 0, .string { data := #[] }] 33) = X := ⟨_, rfl⟩
      rw [hWa] at h6 q6
      have hi6 := chRow (doU (lM m) (chM k v))
      obtain ⟨w6, hWb⟩ : ∃ X, w6a.setRow w5.heap.size (chC (doU (lM m) (chM k v))) = X := ⟨_, rfl⟩
      have q7 : Below w5.heap.size w5 w6 := by rw [← hWb]; exact below_rowAc q6 (g := w5.heap.size) (Nat.le_refl _) _
      have Q6 := Lib.hid (Q5.out.trans (q7.mono Q5.out.size))
      have P6 := Lib.hid (P5.out.trans (q7.mono P5.out.size))
      clear k5 q5 q6 q7
      generalize doE (lM m) (chM k v) = er at *
      generalize (doL (lM m) (chM k v)).length = L at *
      generalize manyM m k v = mn at *
      obtain ⟨sa, cs, hsh, hsl1, hsl2⟩ := ST.out.shape
      rw [lM_len] at hsh hsl1
      subst hsh
      by_cases hm200 : m ≤ 200
      · by_cases hmany : mn ≤ 200
        · obtain ⟨hE, hL⟩ := HDM.out
          rw [if_pos hm200, if_pos hmany] at hE hL
          replace hE := hE.symm
          replace hL := hL.symm
          subst hE hL
          by_cases hkk : k < m
          · rcases (show v = 0 ∨ v = 1 by have := HV.out; omega) with rfl | rfl
            · have hmn : mn = m - 1 := by
                have := HMN.out
                simp [hkk] at this
                omega
              have hkI : (k : Int) < (m : Int) := by omega
              have hkJ : ¬ (k : Int) ≥ (m : Int) := by omega
              have hg : ¬ (m : Int) > 200 := by omega
              have hg2 : ¬ (m : Int) - 1 > 200 := by omega
              have hLb : ((mn : Int) == (m : Int) - 1) = true := by simp; omega
              have hmnb : (mn : Int) ≤ 300 := by omega
              clear hmn hkk hm200 hmany
              go_wp2_with (refine wpList_store_row rfl _ (.tmp 14) (.tmp 46) rfl _ _ rfl rfl _ _ h6 hi6.1 hi6.2.1 hi6.2.2 ?_; rw [hWb])
              go_ret
              exact ⟨rfl, Q6.out⟩
            · have hmn : mn = m := by
                have := HMN.out
                simp [hkk] at this
                omega
              have hkI : (k : Int) < (m : Int) := by omega
              have hkJ : ¬ (k : Int) ≥ (m : Int) := by omega
              have hg : ¬ (m : Int) > 200 := by omega
              have hg2 : ¬ (m : Int) > 200 := by omega
              have hLb : ((mn : Int) == (m : Int)) = true := by simp; omega
              have hmnb : (mn : Int) ≤ 300 := by omega
              clear hmn hkk hm200 hmany
              go_wp2_with (refine wpList_store_row rfl _ (.tmp 14) (.tmp 46) rfl _ _ rfl rfl _ _ h6 hi6.1 hi6.2.1 hi6.2.2 ?_; rw [hWb])
              go_ret
              exact ⟨rfl, Q6.out⟩
          · rcases (show v = 0 ∨ v = 1 by have := HV.out; omega) with rfl | rfl
            · have hmn : mn = m := by
                have := HMN.out
                simp [hkk] at this
                omega
              have hkI : ¬ (k : Int) < (m : Int) := by omega
              have hkJ : (k : Int) ≥ (m : Int) := by omega
              have hg : ¬ (m : Int) > 200 := by omega
              have hg2 : ¬ (m : Int) > 200 := by omega
              have hLb : ((mn : Int) == (m : Int)) = true := by simp; omega
              have hmnb : (mn : Int) ≤ 300 := by omega
              clear hmn hkk hm200 hmany
              go_wp2_with (refine wpList_store_row rfl _ (.tmp 14) (.tmp 46) rfl _ _ rfl rfl _ _ h6 hi6.1 hi6.2.1 hi6.2.2 ?_; rw [hWb])
              go_ret
              exact ⟨rfl, Q6.out⟩
            · have hmn : mn = m + 1 := by
                have := HMN.out
                simp [hkk] at this
                omega
              have hkI : ¬ (k : Int) < (m : Int) := by omega
              have hkJ : (k : Int) ≥ (m : Int) := by omega
              have hg : ¬ (m : Int) > 200 := by omega
              have hg2 : ¬ (m : Int) + 1 > 200 := by omega
              have hLb : ((mn : Int) == (m : Int) + 1) = true := by simp; omega
              have hmnb : (mn : Int) ≤ 300 := by omega
              clear hmn hkk hm200 hmany
              go_wp2_with (refine wpList_store_row rfl _ (.tmp 14) (.tmp 46) rfl _ _ rfl rfl _ _ h6 hi6.1 hi6.2.1 hi6.2.2 ?_; rw [hWb])
              go_ret
              exact ⟨rfl, Q6.out⟩
        · obtain ⟨hE, hL⟩ := HDM.out
          rw [if_pos hm200, if_neg hmany] at hE hL
          replace hE := hE.symm
          replace hL := hL.symm
          subst hE hL
          by_cases hkk : k < m
          · rcases (show v = 0 ∨ v = 1 by have := HV.out; omega) with rfl | rfl
            · exfalso
              have := HMN.out
              simp [hkk] at this
              omega
            · exfalso
              have := HMN.out
              simp [hkk] at this
              omega
          · rcases (show v = 0 ∨ v = 1 by have := HV.out; omega) with rfl | rfl
            · exfalso
              have := HMN.out
              simp [hkk] at this
              omega
            · have hmn : mn = m + 1 := by
                have := HMN.out
                simp [hkk] at this
                omega
              have hkI : ¬ (k : Int) < (m : Int) := by omega
              have hkJ : (k : Int) ≥ (m : Int) := by omega
              have hg : ¬ (m : Int) > 200 := by omega
              have hg2 : (m : Int) + 1 > 200 := by omega
              clear hmn hkk hm200 hmany
              go_wp2_with (refine wpList_store_row rfl _ (.tmp 14) (.tmp 46) rfl _ _ rfl rfl _ _ h6 hi6.1 hi6.2.1 hi6.2.2 ?_; rw [hWb])
              go_ret
              exact ⟨rfl, Q6.out⟩
      · obtain ⟨hE, hL⟩ := HDM.out
        rw [if_neg hm200] at hE hL
        replace hE := hE.symm
        replace hL := hL.symm
        subst hE hL
        by_cases hkk : k < m
        · rcases (show v = 0 ∨ v = 1 by have := HV.out; omega) with rfl | rfl
          · have hmn : mn = m - 1 := by
              have := HMN.out
              simp [hkk] at this
              omega
            have hkI : (k : Int) < (m : Int) := by omega
            have hkJ : ¬ (k : Int) ≥ (m : Int) := by omega
            have hg : (m : Int) > 200 := by omega
            have HRI := right_st w6 (.slice sa m cs) (lM m) (ST.out.later P6.out)
            rw [lM_right, decide_eq_false hm200] at HRI
            have HRI := Lib.hid HRI
            clear hmn hkk hm200
            go_wp2_with (refine wpList_store_row rfl _ (.tmp 14) (.tmp 46) rfl _ _ rfl rfl _ _ h6 hi6.1 hi6.2.1 hi6.2.2 ?_; rw [hWb])
            refine HRI.out.mono ?_
            rintro _ w7 ⟨rfl, q7⟩
            have Q7 := Lib.hid (Q6.out.trans (q7.mono Q6.out.size))
            clear q7 HRI
            go_wp2_with fail
            go_ret
            exact ⟨rfl, Q7.out⟩
          · have hmn : mn = m := by
              have := HMN.out
              simp [hkk] at this
              omega
            have hkI : (k : Int) < (m : Int) := by omega
            have hkJ : ¬ (k : Int) ≥ (m : Int) := by omega
            have hg : (m : Int) > 200 := by omega
            have HRI := right_st w6 (.slice sa m cs) (lM m) (ST.out.later P6.out)
            rw [lM_right, decide_eq_false hm200] at HRI
            have HRI := Lib.hid HRI
            clear hmn hkk hm200
            go_wp2_with (refine wpList_store_row rfl _ (.tmp 14) (.tmp 46) rfl _ _ rfl rfl _ _ h6 hi6.1 hi6.2.1 hi6.2.2 ?_; rw [hWb])
            refine HRI.out.mono ?_
            rintro _ w7 ⟨rfl, q7⟩
            have Q7 := Lib.hid (Q6.out.trans (q7.mono Q6.out.size))
            clear q7 HRI
            go_wp2_with fail
            go_ret
            exact ⟨rfl, Q7.out⟩
        · rcases (show v = 0 ∨ v = 1 by have := HV.out; omega) with rfl | rfl
          · have hmn : mn = m := by
              have := HMN.out
              simp [hkk] at this
              omega
            have hkI : ¬ (k : Int) < (m : Int) := by omega
            have hkJ : (k : Int) ≥ (m : Int) := by omega
            have hg : (m : Int) > 200 := by omega
            have HRI := right_st w6 (.slice sa m cs) (lM m) (ST.out.later P6.out)
            rw [lM_right, decide_eq_false hm200] at HRI
            have HRI := Lib.hid HRI
            clear hmn hkk hm200
            go_wp2_with (refine wpList_store_row rfl _ (.tmp 14) (.tmp 46) rfl _ _ rfl rfl _ _ h6 hi6.1 hi6.2.1 hi6.2.2 ?_; rw [hWb])
            refine HRI.out.mono ?_
            rintro _ w7 ⟨rfl, q7⟩
            have Q7 := Lib.hid (Q6.out.trans (q7.mono Q6.out.size))
            clear q7 HRI
            go_wp2_with fail
            go_ret
            exact ⟨rfl, Q7.out⟩
          · have hmn : mn = m + 1 := by
              have := HMN.out
              simp [hkk] at this
              omega
            have hkI : ¬ (k : Int) < (m : Int) := by omega
            have hkJ : (k : Int) ≥ (m : Int) := by omega
            have hg : (m : Int) > 200 := by omega
            have HRI := right_st w6 (.slice sa m cs) (lM m) (ST.out.later P6.out)
            rw [lM_right, decide_eq_false hm200] at HRI
            have HRI := Lib.hid HRI
            clear hmn hkk hm200
            go_wp2_with (refine wpList_store_row rfl _ (.tmp 14) (.tmp 46) rfl _ _ rfl rfl _ _ h6 hi6.1 hi6.2.1 hi6.2.2 ?_; rw [hWb])
            refine HRI.out.mono ?_
            rintro _ w7 ⟨rfl, q7⟩
            have Q7 := Lib.hid (Q6.out.trans (q7.mono Q6.out.size))
            clear q7 HRI
            go_wp2_with fail
            go_ret
            exact ⟨rfl, Q7.out⟩
end Go.Proofs.YtadfkiebblmfkaaGreatDoor
