/- Keys as plain data, how they lie in memory, and their order. Conditions: none. -/
import Derived.Test.YtbkgipggblphlaaAdr
import Derived.Test.YtbkgipggblphlaaJoinI
import Derived.Deep.MidRow
import Derived.Deep.WholeRow
namespace Go.Proofs.Ytbkgipggblphlaa
open Go Go.RowKit
attribute [local go_sem] Oper.semAt_some Grows wide_fn

/-- A key. -/
structure Ky where
  at_ : Nat
  slot : Bool
  key : Nat
  deriving DecidableEq, Inhabited
def kyL (k : Ky) : List Value := adL k.at_ ++ [.bool k.slot, .int .u64 (lim k.key 0), .int .u64 (lim k.key 1), .int .u64 (lim k.key 2), .int .u64 (lim k.key 3)]
def kyC (k : Ky) : Array Value := (kyL k).toArray
structure KyOk (k : Ky) : Prop where
  at_ : k.at_ < 256 ^ 20
  key : W256 k.key
theorem kyL_len (k : Ky) : (kyL k).length = 25 := by simp [kyL, adL_len]
theorem kyC_size (k : Ky) : (kyC k).size = 25 := by simp [kyC, kyL_len]
theorem kyL_more (k : Ky) (j : Nat) : (kyL k)[20 + j]? = [.bool k.slot, .int .u64 (lim k.key 0), .int .u64 (lim k.key 1), .int .u64 (lim k.key 2), .int .u64 (lim k.key 3)][j]? := by
  unfold kyL
  rw [List.getElem?_append_right (by rw [adL_len]; omega), adL_len, Nat.add_sub_cancel_left]
theorem kyC_more (k : Ky) (j : Nat) : (kyC k)[20 + j]? = [.bool k.slot, .int .u64 (lim k.key 0), .int .u64 (lim k.key 1), .int .u64 (lim k.key 2), .int .u64 (lim k.key 3)][j]? := by
  rw [← kyL_more k j]
  simp [kyC]
theorem kyL_at (k : Ky) (j : Nat) (h : j < 20) : (kyL k)[j]? = some (.int .u8 ((adB k.at_ j : Nat) : Int)) := by
  unfold kyL
  rw [List.getElem?_append_left (by rw [adL_len]; exact h)]
  simp [adL, h]
theorem kyL_one (k : Ky) : ∀ u ∈ kyL k, u.oneCell' = true := fun u hu => by
  unfold kyL adL at hu
  rcases List.mem_append.1 hu with h | h
  · obtain ⟨i, _, rfl⟩ := List.mem_map.1 h
    rfl
  · simp only [List.mem_cons, List.not_mem_nil, or_false] at h
    rcases h with rfl | rfl | rfl | rfl | rfl
    all_goals rfl
theorem infoKy : (Try.prog.info? 31).map (·.size) = some 25 := by kernel_rfl
/-- The cells of a key's box. -/
theorem Has.ky {W : World} {B : Nat} {k : Ky} (h : Has W B 31 (kyC k)) : W.cell? ⟨B, 20, none⟩ = some (.bool k.slot) ∧ W.cell? ⟨B, 21, none⟩ = some (.int .u64 (lim k.key 0)) ∧ W.cell? ⟨B, 22, none⟩ = some (.int .u64 (lim k.key 1)) ∧ W.cell? ⟨B, 23, none⟩ = some (.int .u64 (lim k.key 2)) ∧ W.cell? ⟨B, 24, none⟩ = some (.int .u64 (lim k.key 3)) :=
  ⟨h.cell 20 _ (kyC_more k 0), h.cell 21 _ (kyC_more k 1), h.cell 22 _ (kyC_more k 2), h.cell 23 _ (kyC_more k 3), h.cell 24 _ (kyC_more k 4)⟩
theorem Has.kyAd {W : World} {B : Nat} {t : TypeId} {k : Ky} (h : Has W B t (kyC k)) : AdAt W ⟨B, 0, none⟩ k.at_ := fun j hj => by
  rw [add_lit, Nat.zero_add]
  exact h.cell j _ (by simp [kyC, kyL_at k j hj])
theorem Has.kyLoad {W : World} {B : Nat} {k : Ky} (h : Has W B 31 (kyC k)) : (loadVar 31 ⟨B, 0, none⟩).run Try.prog W = .ok (.agg (kyC k)) W :=
  run_loadVar_row _ _ _ _ _ (0, 0) _ h Try.underlying31 rfl (by rw [kyC_size]; exact infoKy)

theorem eqv_k (a b : Nat) (ha : W256 a) (hb : W256 b) : (lim a 0 == lim b 0 && lim a 1 == lim b 1 && lim a 2 == lim b 2 && lim a 3 == lim b 3) = decide (a = b) := by
  by_cases h : a = b
  · subst h; simp
  · rw [decide_eq_false h]
    refine Bool.eq_false_iff.2 fun e => h ?_
    simp only [Bool.and_eq_true, beq_iff_eq] at e
    exact lim_ext ha hb fun k hk => by
      obtain rfl | rfl | rfl | rfl : k = 0 ∨ k = 1 ∨ k = 2 ∨ k = 3 := by omega
      · exact e.1.1.1
      · exact e.1.1.2
      · exact e.1.2
      · exact e.2
/-- The order of keys. -/
def kcmp (a b : Ky) : Int := if acmp a.at_ b.at_ = 0 then (if a.slot = b.slot then wcmp a.key b.key else if a.slot = true then 1 else -1) else acmp a.at_ b.at_

set_option maxRecDepth 100000 in
set_option maxHeartbeats 4000000 in
theorem korder_any (W : World) (a b : Ky) (ha : KyOk a) (hb : KyOk b) :
    Calls Try.prog 9 #[.agg (kyC a), .agg (kyC b)] W fun e w' => e = .returned (.int .i64 (kcmp a b)) ∧ Below W.heap.size W w' := by
  have hmx : Try.prog.follows .mixedOrders = true := by kernel_rfl
  have K1 := (Has.new W 31 (kyC a)).alloc (.cells (kyC b) 31)
  have K2 := Has.new (W.alloc (.cells (kyC a) 31)) 31 (kyC b)
  simp only [World.size_alloc] at K2
  have q0 := ((Below.refl W.heap.size W).alloc (Nat.le_refl _) (.cells (kyC a) 31)).alloc (by simp) (.cells (kyC b) 31)
  obtain ⟨V, hV⟩ : ∃ V, (W.alloc (.cells (kyC a) 31)).alloc (.cells (kyC b) 31) = V := ⟨_, rfl⟩
  rw [hV] at K1 K2 q0
  have HC := Lib.hid (fun z : Ext V => (show Calls Try.prog 24 #[.slice (some ⟨W.heap.size, 0, none⟩) 20 20, .slice (some ⟨W.heap.size + 1, 0, none⟩) 20 20] z.w fun e w' => e = .returned (.int .i64 (acmp a.at_ b.at_)) ∧ ∃ y : Ext V, w' = y.w from
    (compare_any z.w _ _ a.at_ b.at_ 20 20 (K1.later z.below).kyAd (K2.later z.below).kyAd ha.at_ hb.at_).mono fun _ _ ⟨h1, h2⟩ => ⟨h1, z, h2.symm⟩))
  have HW := Lib.hid (cmp_ret a.key b.key ha.key hb.key)
  have CA := Lib.hid (fun z : Ext V => (K1.later z.below).ky)
  have CB := Lib.hid (fun z : Ext V => (K2.later z.below).ky)
  have Q := Lib.hid q0
  obtain ⟨kv, hkv⟩ : ∃ kv, kcmp a b = kv := ⟨_, rfl⟩
  rw [hkv]
  unfold kcmp at hkv
  unfold wv at HW
  generalize acmp a.at_ b.at_ = r at *
  generalize wcmp a.key b.key = s at *
  generalize kyC a = cs at *
  generalize kyC b = ds at *
  clear q0 ha hb K1 K2
  obtain ⟨_, sa, ka⟩ := a
  obtain ⟨_, sb, kb⟩ := b
  simp only at CA CB HW hkv ⊢
  have HK := Lib.hid hkv
  clear hkv
  go_enter Try.func9, Try.ntmps9
  go_wp2_with fail
  refine wp_region_quietL (C := Grows V) hmx (by kernel_rfl) (grows_refl V) ?_
  repeat (go_big_quiet_step (first | (with_reducible exact HC.out _)))
  refine wpQuiet_nil ?_
  rintro _ ⟨z, rfl⟩
  have QE := Lib.hid (Q.out.trans (z.below.mono Q.out.size))
  obtain ⟨a0, a1, a2, a3, a4⟩ := CA.out z
  obtain ⟨b0, b1, b2, b3, b4⟩ := CB.out z
  by_cases hr : r = 0
  · subst hr
    cases sa <;> cases sb
    · go_wp2_with fail
      refine (HW.out _).mono ?_
      rintro e w1 ⟨rfl, hb1⟩
      have QF := Lib.hid (QE.out.trans (hb1.mono QE.out.size))
      go_wp2_with fail
      go_ret
      exact ⟨by rw [← HK.out]; rfl, QF.out⟩
    · go_wp2_with fail
      go_ret
      exact ⟨by rw [← HK.out]; first | rfl | (rw [if_neg hr]; rfl), QE.out⟩
    · go_wp2_with fail
      go_ret
      exact ⟨by rw [← HK.out]; first | rfl | (rw [if_neg hr]; rfl), QE.out⟩
    · go_wp2_with fail
      refine (HW.out _).mono ?_
      rintro e w1 ⟨rfl, hb1⟩
      have QF := Lib.hid (QE.out.trans (hb1.mono QE.out.size))
      go_wp2_with fail
      go_ret
      exact ⟨by rw [← HK.out]; rfl, QF.out⟩
  · go_wp2_with fail
    go_ret
    exact ⟨by rw [← HK.out]; first | rfl | (rw [if_neg hr]; rfl), QE.out⟩
end Go.Proofs.Ytbkgipggblphlaa
