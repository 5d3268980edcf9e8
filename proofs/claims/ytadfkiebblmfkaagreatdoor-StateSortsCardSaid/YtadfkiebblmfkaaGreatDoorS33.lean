import Derived.Test.YtadfkiebblmfkaaGreatDoorS32
/- chi: what 'mixed' makes of lanes. For all lanes. -/
namespace Go.Proofs.YtadfkiebblmfkaaGreatDoor
open Go Go.RowKit Go.Shelf
attribute [local go_sem] Oper.semAt_some Grows wide_fn field0

theorem bits_andNot_i (a b : Nat) (ha : a < 2 ^ 64) (hb : b < 2 ^ 64) : bits .andNot .u64 (a : Int) (b : Int) = ((a &&& (18446744073709551615 ^^^ b) : Nat) : Int) := by
  have hx : a &&& (18446744073709551615 ^^^ b) < 2 ^ 64 := Nat.and_lt_two_pow _ (Nat.xor_lt_two_pow (by decide) hb)
  have h1 : (BitVec.ofInt 64 (a : Int)).toNat = a := by
    rw [BitVec.ofInt_natCast, BitVec.toNat_ofNat]; exact Nat.mod_eq_of_lt ha
  have h2 : (BitVec.ofInt 64 (b : Int)).toNat = b := by
    rw [BitVec.ofInt_natCast, BitVec.toNat_ofNat]; exact Nat.mod_eq_of_lt hb
  show IntKind.u64.wrap ((BitVec.ofInt 64 (a : Int) &&& ~~~BitVec.ofInt 64 (b : Int)).toNat : Int) = _
  rw [BitVec.not_def, BitVec.toNat_and, BitVec.toNat_xor, BitVec.toNat_allOnes, h1, h2, IntKind.wrap_u64]
  rw [show (2 : Nat) ^ 64 - 1 = 18446744073709551615 from rfl]
  omega
theorem plane2_ret (k on : Nat) (hk : k < 25) : Ret Tryz.prog 133 #[.agg #[.int .u64 (((k % 5 + on) % 5 : Nat) : Int), .int .u64 ((k / 5 : Nat) : Int)]] (.int .u64 ((5 * (k / 5) + (k % 5 + on) % 5 : Nat) : Int)) :=
  (lane_ret _ _ ⟨by omega, by omega⟩ ⟨by omega, by omega⟩).of_eq rfl (by congr 1)
/-- What is made behind k places. -/
def mixK (A : Nat → Nat) (k j : Nat) : Nat := if j < k then mixN A j else 0


set_option maxRecDepth 100000 in
set_option maxHeartbeats 4000000 in
theorem mixed_calls (B : Nat) (A : Nat → Nat) (hA : ∀ j, A j < 2 ^ 64) (w : World) (hB : Has w B 115 (luC 25 A)) :
    Calls Tryz.prog 109 #[.pointer (some ⟨B, 0, none⟩)] w fun e w' => e = .returned (.agg (luC 25 (mixN A))) ∧ Below w.heap.size w w' := by
  have hBl := hB.lt
  have hmx : Tryz.prog.follows .mixedOrders = true := by kernel_rfl
  refine (callsIn_wide (n := 8)).1 ?_
  refine callsIn_of_wp_marks Tryz.func109 rfl trivial ?_ rfl
  simp only [Tryz.ntmps109, List.size_toArray, List.length_cons, List.length_nil, Nat.reduceAdd, Nat.reduceSub, Array.replicate_succ, Array.replicate_zero, List.push_toArray, List.append_toArray, List.nil_append, List.cons_append]
  gi_wp2
  have hI0 : TuSt w B A (mixK A 0) (((w.alloc (.cells #[.pointer (some ⟨B, 0, none⟩)] 121)).alloc (.cells #[.int .u64 0, .int .u64 0, .int .u64 0, .int .u64 0, .int .u64 0, .int .u64 0, .int .u64 0, .int .u64 0, .int .u64 0, .int .u64 0, .int .u64 0, .int .u64 0, .int .u64 0, .int .u64 0, .int .u64 0, .int .u64 0, .int .u64 0, .int .u64 0, .int .u64 0, .int .u64 0, .int .u64 0, .int .u64 0, .int .u64 0, .int .u64 0, .int .u64 0] 115)).alloc (.cells #[.int .u64 0, .int .u64 0, .int .u64 0, .int .u64 0, .int .u64 0, .int .u64 0, .int .u64 0, .int .u64 0, .int .u64 0, .int .u64 0, .int .u64 0, .int .u64 0, .int .u64 0, .int .u64 0, .int .u64 0, .int .u64 0, .int .u64 0, .int .u64 0, .int .u64 0, .int .u64 0, .int .u64 0, .int .u64 0, .int .u64 0, .int .u64 0, .int .u64 0] 115)) := by
    have L1 := ((hB.alloc (.cells #[.pointer (some ⟨B, 0, none⟩)] 121)).alloc (.cells #[.int .u64 0, .int .u64 0, .int .u64 0, .int .u64 0, .int .u64 0, .int .u64 0, .int .u64 0, .int .u64 0, .int .u64 0, .int .u64 0, .int .u64 0, .int .u64 0, .int .u64 0, .int .u64 0, .int .u64 0, .int .u64 0, .int .u64 0, .int .u64 0, .int .u64 0, .int .u64 0, .int .u64 0, .int .u64 0, .int .u64 0, .int .u64 0, .int .u64 0] 115)).alloc (.cells #[.int .u64 0, .int .u64 0, .int .u64 0, .int .u64 0, .int .u64 0, .int .u64 0, .int .u64 0, .int .u64 0, .int .u64 0, .int .u64 0, .int .u64 0, .int .u64 0, .int .u64 0, .int .u64 0, .int .u64 0, .int .u64 0, .int .u64 0, .int .u64 0, .int .u64 0, .int .u64 0, .int .u64 0, .int .u64 0, .int .u64 0, .int .u64 0, .int .u64 0] 115)
    have L2 := ((Has.new w 121 #[.pointer (some ⟨B, 0, none⟩)]).alloc (.cells #[.int .u64 0, .int .u64 0, .int .u64 0, .int .u64 0, .int .u64 0, .int .u64 0, .int .u64 0, .int .u64 0, .int .u64 0, .int .u64 0, .int .u64 0, .int .u64 0, .int .u64 0, .int .u64 0, .int .u64 0, .int .u64 0, .int .u64 0, .int .u64 0, .int .u64 0, .int .u64 0, .int .u64 0, .int .u64 0, .int .u64 0, .int .u64 0, .int .u64 0] 115)).alloc (.cells #[.int .u64 0, .int .u64 0, .int .u64 0, .int .u64 0, .int .u64 0, .int .u64 0, .int .u64 0, .int .u64 0, .int .u64 0, .int .u64 0, .int .u64 0, .int .u64 0, .int .u64 0, .int .u64 0, .int .u64 0, .int .u64 0, .int .u64 0, .int .u64 0, .int .u64 0, .int .u64 0, .int .u64 0, .int .u64 0, .int .u64 0, .int .u64 0, .int .u64 0] 115)
    have L3 := (Has.new (w.alloc (.cells #[.pointer (some ⟨B, 0, none⟩)] 121)) 115 #[.int .u64 0, .int .u64 0, .int .u64 0, .int .u64 0, .int .u64 0, .int .u64 0, .int .u64 0, .int .u64 0, .int .u64 0, .int .u64 0, .int .u64 0, .int .u64 0, .int .u64 0, .int .u64 0, .int .u64 0, .int .u64 0, .int .u64 0, .int .u64 0, .int .u64 0, .int .u64 0, .int .u64 0, .int .u64 0, .int .u64 0, .int .u64 0, .int .u64 0]).alloc (.cells #[.int .u64 0, .int .u64 0, .int .u64 0, .int .u64 0, .int .u64 0, .int .u64 0, .int .u64 0, .int .u64 0, .int .u64 0, .int .u64 0, .int .u64 0, .int .u64 0, .int .u64 0, .int .u64 0, .int .u64 0, .int .u64 0, .int .u64 0, .int .u64 0, .int .u64 0, .int .u64 0, .int .u64 0, .int .u64 0, .int .u64 0, .int .u64 0, .int .u64 0] 115)
    have L4 := Has.new ((w.alloc (.cells #[.pointer (some ⟨B, 0, none⟩)] 121)).alloc (.cells #[.int .u64 0, .int .u64 0, .int .u64 0, .int .u64 0, .int .u64 0, .int .u64 0, .int .u64 0, .int .u64 0, .int .u64 0, .int .u64 0, .int .u64 0, .int .u64 0, .int .u64 0, .int .u64 0, .int .u64 0, .int .u64 0, .int .u64 0, .int .u64 0, .int .u64 0, .int .u64 0, .int .u64 0, .int .u64 0, .int .u64 0, .int .u64 0, .int .u64 0] 115)) 115 #[.int .u64 0, .int .u64 0, .int .u64 0, .int .u64 0, .int .u64 0, .int .u64 0, .int .u64 0, .int .u64 0, .int .u64 0, .int .u64 0, .int .u64 0, .int .u64 0, .int .u64 0, .int .u64 0, .int .u64 0, .int .u64 0, .int .u64 0, .int .u64 0, .int .u64 0, .int .u64 0, .int .u64 0, .int .u64 0, .int .u64 0, .int .u64 0, .int .u64 0]
    simp only [World.size_alloc] at L3 L4
    have Q := (((Below.refl w.heap.size w).alloc (Nat.le_refl _) (.cells #[.pointer (some ⟨B, 0, none⟩)] 121)).alloc (by simp) (.cells #[.int .u64 0, .int .u64 0, .int .u64 0, .int .u64 0, .int .u64 0, .int .u64 0, .int .u64 0, .int .u64 0, .int .u64 0, .int .u64 0, .int .u64 0, .int .u64 0, .int .u64 0, .int .u64 0, .int .u64 0, .int .u64 0, .int .u64 0, .int .u64 0, .int .u64 0, .int .u64 0, .int .u64 0, .int .u64 0, .int .u64 0, .int .u64 0, .int .u64 0] 115)).alloc (by simp; omega) (.cells #[.int .u64 0, .int .u64 0, .int .u64 0, .int .u64 0, .int .u64 0, .int .u64 0, .int .u64 0, .int .u64 0, .int .u64 0, .int .u64 0, .int .u64 0, .int .u64 0, .int .u64 0, .int .u64 0, .int .u64 0, .int .u64 0, .int .u64 0, .int .u64 0, .int .u64 0, .int .u64 0, .int .u64 0, .int .u64 0, .int .u64 0, .int .u64 0, .int .u64 0] 115)
    exact ⟨L1, L2, L3, L4, Q⟩
  obtain ⟨W0, hW0⟩ : ∃ W0, (((w.alloc (.cells #[.pointer (some ⟨B, 0, none⟩)] 121)).alloc (.cells #[.int .u64 0, .int .u64 0, .int .u64 0, .int .u64 0, .int .u64 0, .int .u64 0, .int .u64 0, .int .u64 0, .int .u64 0, .int .u64 0, .int .u64 0, .int .u64 0, .int .u64 0, .int .u64 0, .int .u64 0, .int .u64 0, .int .u64 0, .int .u64 0, .int .u64 0, .int .u64 0, .int .u64 0, .int .u64 0, .int .u64 0, .int .u64 0, .int .u64 0] 115)).alloc (.cells #[.int .u64 0, .int .u64 0, .int .u64 0, .int .u64 0, .int .u64 0, .int .u64 0, .int .u64 0, .int .u64 0, .int .u64 0, .int .u64 0, .int .u64 0, .int .u64 0, .int .u64 0, .int .u64 0, .int .u64 0, .int .u64 0, .int .u64 0, .int .u64 0, .int .u64 0, .int .u64 0, .int .u64 0, .int .u64 0, .int .u64 0, .int .u64 0, .int .u64 0] 115)) = W0 := ⟨_, rfl⟩
  have hsz : W0.heap.size = w.heap.size + 3 := by rw [← hW0]; simp
  rw [hW0] at hI0 ⊢
  clear hW0
  refine wpIn_rangeFunc_N rfl (by omega) (gf := 132) (lb := #[]) rfl trivial (enters_of Tryz.func132 (by kernel_rfl) rfl)
    (places_seq _ (by omega) (fun _ _ => True) W0) (fun _ _ => trivial) (fun _ _ _ _ _ _ _ _ => trivial) (fun _ _ => rfl)
    (fun k W => TuSt w B A (mixK A k) W) (fun _ _ _ => False) (TuSt.own w B _ (by omega) A (mixK A)) (fun _ _ _ _ _ hs _ _ => hs) hI0
    (fun k a' V => ∃ b, Has V b 164 #[.int .u64 ((k % 5 : Nat) : Int), .int .u64 ((k / 5 : Nat) : Int)] ∧ a' = { tmps := #[.pointer (some ⟨B, 0, none⟩), .pointer (some ⟨w.heap.size, 0, none⟩), .pointer (some ⟨w.heap.size + 1, 0, none⟩), .pointer (some ⟨w.heap.size + 1 + 1, 0, none⟩), .pointer (some ⟨b, 0, none⟩), .agg #[.int .u64 ((k % 5 : Nat) : Int), .int .u64 ((k / 5 : Nat) : Int)], undef, undef, undef, undef, undef, undef, undef, undef, undef, undef, undef, undef, undef, undef, undef, undef, undef, undef, undef, undef, undef, undef, undef, undef, undef, undef], defers := [] })
    (fun k a' _ X Y row hs hg hr => by obtain ⟨b, hH, e⟩ := hs; exact ⟨b, hH.grown hg (fun r e => (hr r e).2), e⟩) ?assign ?body ?done ?stop
  case assign =>
    intro l k W K hkN hst hK
    rw [plV_eq]
    have HST := Lib.hid hst
    clear hst hkN hI0
    have HK := Lib.hid hK
    clear hK
    gi_wp2
    exact HK.out _ _ ((KeepsOthers.alloc _ _).from _) trivial (HST.out.later ((Below.refl _ _).alloc (Nat.le_refl _) _)) ⟨_, Has.new _ _ _, rfl⟩
  case body =>
    rintro l k a' W hl hlo hkN hst ⟨b, hH, rfl⟩
    have hi1 : 5 * (k / 5) + (k % 5 + 1) % 5 < 25 := by omega
    have hi2 : 5 * (k / 5) + (k % 5 + 2) % 5 < 25 := by omega
    have hS' : ∀ i, i < 25 → mixK A (k + 1) i = if i = k then mixN A k else mixK A k i := fun i _ => by
      unfold mixK
      by_cases e : i = k
      · rw [if_pos e, if_pos (by omega), e]
      · rw [if_neg e]
        by_cases e2 : i < k
        · rw [if_pos e2, if_pos (by omega)]
        · rw [if_neg e2, if_neg (by omega)]
    have hA2 := hA (5 * (k / 5) + (k % 5 + 2) % 5)
    have hA1 := hA (5 * (k / 5) + (k % 5 + 1) % 5)
    have hx1 := bits_andNot_i _ _ hA2 hA1
    have hx2 := xor_i (A k) (A (5 * (k / 5) + (k % 5 + 2) % 5) &&& (18446744073709551615 ^^^ A (5 * (k / 5) + (k % 5 + 1) % 5))) (hA k) (Nat.and_lt_two_pow _ (Nat.xor_lt_two_pow (by decide) hA1))
    rw [show A k ^^^ (A (5 * (k / 5) + (k % 5 + 2) % 5) &&& (18446744073709551615 ^^^ A (5 * (k / 5) + (k % 5 + 1) % 5))) = mixN A k from rfl] at hx2
    have HL := Lib.hid (plane_ret k hkN)
    have HL2 := Lib.hid (plane2_ret k 2 hkN)
    have HL1 := Lib.hid (plane2_ret k 1 hkN)
    have HB2 : Hid (Ret Tryz.prog 134 #[.agg #[.int .u64 ((k % 5 : Nat) : Int), .int .u64 ((k / 5 : Nat) : Int)], .int .u64 2] (.agg #[.int .u64 (((k % 5 + 2) % 5 : Nat) : Int), .int .u64 ((k / 5 : Nat) : Int)])) := Lib.hid (pbes_ret k 2 (by omega))
    have HB1 : Hid (Ret Tryz.prog 134 #[.agg #[.int .u64 ((k % 5 : Nat) : Int), .int .u64 ((k / 5 : Nat) : Int)], .int .u64 1] (.agg #[.int .u64 (((k % 5 + 1) % 5 : Nat) : Int), .int .u64 ((k / 5 : Nat) : Int)])) := Lib.hid (pbes_ret k 1 (by omega))
    have kb0 : ∀ x : Ext W, x.w.cell? ⟨b, 0, none⟩ = some (.int .u64 ((k % 5 : Nat) : Int)) := fun x => (hH.later x.below).cell 0 _ rfl
    have kb1 : ∀ x : Ext W, x.w.cell? ⟨b, 1, none⟩ = some (.int .u64 ((k / 5 : Nat) : Int)) := fun x => (hH.later x.below).cell 1 _ rfl
    have kM : ∀ x : Ext W, x.w.cell? ⟨w.heap.size + 1 + 1, k, none⟩ = some (.int .u64 ((mixK A k k : Nat) : Int)) := fun x => (hst.M.later x.below).cell _ _ (luC_get 25 _ _ hkN)
    have kA0 : ∀ x : Ext W, x.w.cell? ⟨B, k, none⟩ = some (.int .u64 ((A k : Nat) : Int)) := fun x => (hst.A.later x.below).cell _ _ (luC_get 25 _ _ hkN)
    have kA1 : ∀ x : Ext W, x.w.cell? ⟨B, 5 * (k / 5) + (k % 5 + 1) % 5, none⟩ = some (.int .u64 ((A (5 * (k / 5) + (k % 5 + 1) % 5) : Nat) : Int)) := fun x => (hst.A.later x.below).cell _ _ (luC_get 25 _ _ hi1)
    have kA2 : ∀ x : Ext W, x.w.cell? ⟨B, 5 * (k / 5) + (k % 5 + 2) % 5, none⟩ = some (.int .u64 ((A (5 * (k / 5) + (k % 5 + 2) % 5) : Nat) : Int)) := fun x => (hst.A.later x.below).cell _ _ (luC_get 25 _ _ hi2)
    have kP : ∀ x : Ext W, x.w.cell? ⟨w.heap.size, 0, none⟩ = some (.pointer (some ⟨B, 0, none⟩)) := fun x => (hst.P.later x.below).cell 0 _ rfl
    have kz : ∀ x : Ext W, x.w.frozen? ⟨w.heap.size + 1 + 1, k, none⟩ = false := fun x => (hst.M.later x.below).frozen _
    generalize mixN A k = r at *
    generalize mixK A k k = m0 at *
    generalize A (5 * (k / 5) + (k % 5 + 2) % 5) &&& (18446744073709551615 ^^^ A (5 * (k / 5) + (k % 5 + 1) % 5)) = r1 at *
    generalize A (5 * (k / 5) + (k % 5 + 2) % 5) = a2 at *
    generalize A (5 * (k / 5) + (k % 5 + 1) % 5) = a1 at *
    generalize A k = ak at *
    generalize 5 * (k / 5) + (k % 5 + 2) % 5 = i2 at *
    generalize 5 * (k / 5) + (k % 5 + 1) % 5 = i1 at *
    generalize (((k % 5 + 2) % 5 : Nat) : Int) = x2 at *
    generalize (((k % 5 + 1) % 5 : Nat) : Int) = x1 at *
    generalize ((k % 5 : Nat) : Int) = x0 at *
    generalize ((k / 5 : Nat) : Int) = y0 at *
    have hk5I : (k : Int) < 25 := by omega
    have hi1I : (i1 : Int) < 25 := by omega
    have hi2I : (i2 : Int) < 25 := by omega
    have HST := Lib.hid hst
    have HS' := Lib.hid hS'
    clear hst hH hS' hkN hI0 hi1 hi2 hA1 hA2
    gi_wp2_with fail
    refine wpIn_region_mix (C := Grows W) (free_round l) [some true, some true, some true, some true, some true, some true, some true, some true, some true, some true, some true, some true, some true, some true, some true, some true, some true, some true, some true, some true, some true, some true, some true, some true, some true, none] hmx (by kernel_rfl) (by kernel_rfl) (grows_refl W) ?_
    simp only [headOf, tailOf]
    repeat (go_big_quiet_step (first | (with_reducible exact Ret.at HL.out _) | (with_reducible exact Ret.at HL1.out _) | (with_reducible exact Ret.at HL2.out _) | (with_reducible exact Ret.at HB1.out _) | (with_reducible exact Ret.at HB2.out _)))
    refine wpQuiet_nil ?_
    rintro _ ⟨x, rfl⟩
    have H2 := Lib.hid ((HST.out.later x.below).put hBl k r HS'.out)
    have HKP := Lib.hid (x.keeps W0.heap.size)
    have kz' := kz x
    have kM' := kM x
    clear kz kM kA0 kA1 kA2 kP kb0 kb1
    go_wp2
    rw [calmPost_normal]
    gi_wp2
    exact ⟨HKP.out.trans ((KeepsOthers.setCell _ _ _).from _), trivial, H2.out⟩
  case done =>
    rintro D W hD hst0 hK
    have hst : TuSt w B A (mixN A) W := ⟨hst0.A, hst0.P, hst0.R, by rw [luC_congr 25 (mixN A) (mixK A 25) (fun j hj => by unfold mixK; rw [if_pos hj])]; exact hst0.M, hst0.Q⟩
    clear hst0
    have hDR : D ≠ w.heap.size + 1 := by omega
    have HM := Lib.hid (load25 hst.M)
    have HRR := Lib.hid hst.R
    have HQ := Lib.hid (below_row (B := w.heap.size + 1) hst.Q (by omega) (luC 25 (mixN A)))
    have HR2 : Hid (Has (W.setRow (w.heap.size + 1) (luC 25 (mixN A))) (w.heap.size + 1) 115 (luC 25 (mixN A))) := Lib.hid hst.R.rowK
    have HK2 : Hid ((W.setRow (w.heap.size + 1) (luC 25 (mixN A))).heap[D]? = some (.deferred (some []))) := Lib.hid ((setRow_other hDR).trans hK)
    have HIL := Lib.hid (infoL (mixN A))
    have HIO := Lib.hid (one_luC 25 (mixN A))
    clear hst hK hI0
    gi_wp2_with (first | (refine wpListIn_loadB free_wide rfl _ _ rfl (w.heap.size + 1 + 1) rfl _ HM.out ?_) | (refine wpListIn_storeB free_wide rfl _ _ _ rfl (w.heap.size + 1) (luC 25 (mixN A)) rfl rfl _ _ HRR.out HIL.out (by rw [luC_size, luC_size]) HIO.out ?_))
    have R6 : Has ((W.setRow (w.heap.size + 1) (luC 25 (mixN A))).putObj D (.deferred none)) (w.heap.size + 1) 115 (luC 25 (mixN A)) := (World.putObj_heap_other (fun e => hDR e.symm)).trans HR2.out
    have Q6 : Below w.heap.size w ((W.setRow (w.heap.size + 1) (luC 25 (mixN A))).putObj D (.deferred none)) := HQ.out.trans (belowK_b (w := w) (Nat.le_refl _) _ D _ _ (by omega) HK2.out rfl rfl)
    refine ⟨by simp, .inl ⟨_, _, rfl, run_takeDeferred HK2.out, ?_⟩⟩
    exact ⟨_, results_cell_row rfl _ _ (w.heap.size + 1) _ _ (0, 0) _ rfl R6 Tryz.underlying115 rfl (infoL _), rfl, Q6⟩
  case stop =>
    rintro D c k W _ _ h _
    exact h.elim
end Go.Proofs.YtadfkiebblmfkaaGreatDoor

/- Permute: 24 rounds, by the table of the rounds' numbers. For all lanes. -/
namespace Go.Proofs.YtadfkiebblmfkaaGreatDoor
open Go Go.RowKit Go.Shelf
attribute [local go_sem] Oper.semAt_some Grows wide_fn field0

/-- The world's first block holds the rounds' numbers. -/
structure Tab (W : World) : Prop where
  lt : 0 < W.heap.size
  cell : ∀ i, i < 24 → W.cell? ⟨0, i, none⟩ = some (.int .u64 ((rcL.getD i 0 : Nat) : Int))
theorem Tab.below {W W' : World} {n : Nat} (h : Tab W) (hb : Below n W W') (hn : 0 < n) : Tab W' := ⟨Nat.lt_of_lt_of_le h.lt hb.size, fun i hi => (hb.cell (p := ⟨0, i, none⟩) hn).trans (h.cell i hi)⟩
theorem Tab.later {W W' : World} (h : Tab W) (hb : Below W.heap.size W W') : Tab W' := h.below hb h.lt
theorem Tab.alloc {W : World} (h : Tab W) (o : Obj) : Tab (W.alloc o) := h.later ((Below.refl _ W).alloc (Nat.le_refl _) o)
theorem Tab.other {W : World} (h : Tab W) {p : Addr} (hp : 0 < p.block) (v : Value) : Tab (W.setCell p v) := h.below (n := 1) ((Below.refl 1 W).setCell hp v) (by omega)
theorem Tab.kept {W W' : World} {B : Nat} (h : Tab W) (hg : W.grownBy W' (some B)) (hB : 0 < B) : Tab W' := ⟨Nat.lt_of_lt_of_le h.lt hg.size, fun i hi => (World.cell?_of_block (w := W) (hg.block 0 h.lt (fun e => by cases e; omega))).trans (h.cell i hi)⟩
theorem Tab.row {W : World} {B : Nat} (h : Tab W) (hB : 0 < B) (cs : Array Value) : Tab (W.setRow B cs) := h.below (n := 1) (below_row (Below.refl 1 W) hB cs) (by omega)
theorem below_of_grown {w A X : World} {B : Nat} (h : Below w.heap.size w A) (hg : A.grownBy X (some B)) (hn : w.heap.size ≤ B) : Below w.heap.size w X :=
  ⟨hg.os.trans h.os, hg.tape.trans h.tape, hg.output.trans h.output, Nat.le_trans h.size hg.size, fun k hk => (hg.block k (Nat.lt_of_lt_of_le hk h.size) (fun e => by cases e; omega)).trans (h.block k hk)⟩

/-- A call that gives one value where the table lies, and only adds to the heap. -/
def RetT (P : Program) (f : FuncId) (args : Array Value) (v : Value) : Prop := ∀ w, Tab w → Calls P f args w fun e w' => e = .returned v ∧ Below w.heap.size w w'
theorem Ret.toT {P : Program} {f : FuncId} {args : Array Value} {v : Value} (h : Ret P f args v) : RetT P f args v := fun w _ => h w
theorem RetT.at {P : Program} {f : FuncId} {args : Array Value} {v : Value} (h : RetT P f args v) {W : World} (hT : Tab W) (x : Ext W) :
    Calls P f args x.w fun e w'' => e = .returned v ∧ ∃ y : Ext W, w'' = y.w :=
  (h x.w (hT.later x.below)).mono fun _ w' ⟨he, hb⟩ => ⟨he, ⟨w', x.2.trans (hb.mono x.2.size)⟩, rfl⟩
theorem RetT.of_eq {P : Program} {f : FuncId} {args args' : Array Value} {v v' : Value} (h : RetT P f args v) (ha : args = args') (hv : v = v') : RetT P f args' v' := by subst ha; subst hv; exact h

/-- The rounds' numbers, as cells. -/
def rcC : Array Value := (rcL.map fun n => Value.int .u64 ((n : Nat) : Int)).toArray
theorem rcC_size : rcC.size = 24 := rfl
theorem rcC_get (k : Nat) (hk : k < 24) : rcC[k]? = some (.int .u64 ((rcL.getD k 0 : Nat) : Int)) := by
  have hl : k < rcL.length := hk
  unfold rcC
  simp [List.getElem?_map, List.getD_eq_getElem?_getD, List.getElem?_eq_getElem hl]
theorem info24 : (Tryz.prog.info? 138).map (·.size) = some 24 := by kernel_rfl
theorem load24 {W : World} (h : Tab W) : (loadVar 138 ⟨0, 0, none⟩).run Tryz.prog W = .ok (.agg rcC) W := by
  have hl : (loadCells ⟨0, 0, none⟩ rcC.toList.length).run Tryz.prog W = .ok rcC.toList.toArray W :=
    run_loadCells_list (P := Tryz.prog) W ⟨0, 0, none⟩ rcC.toList (fun j v hv => by
      have hadd : (⟨0, 0, none⟩ : Addr).add j = ⟨0, j, none⟩ := by unfold Addr.add; split <;> simp_all
      have hj : j < 24 := by
        rcases Nat.lt_or_ge j 24 with h' | h'
        · exact h'
        · rw [List.getElem?_eq_none (show rcC.toList.length ≤ j from h')] at hv; cases hv
      have hg := rcC_get j hj
      rw [Array.getElem?_toList] at hv
      rw [hadd, h.cell j hj, ← hg, hv])
  have hi := info24
  cases hq : Tryz.prog.info? 138 with
  | none => simp [hq] at hi
  | some i =>
    have hs : i.size = 24 := by simpa [hq] using hi
    have hagg : (isAgg 138).run Tryz.prog W = .ok true W := by
      unfold isAgg
      rw [Sem.run_bind, run_underlying Tryz.underlying138 W]
      rfl
    have hl2 : (loadCells ⟨0, 0, none⟩ 24).run Tryz.prog W = .ok rcC W := by simpa [rcC_size] using hl
    simp [loadVar, Sem.run_bind, hagg, sizeOf, typeInfo, hq, hs, hl2]
theorem index24 (k : Nat) (hk : k < 24) (W : World) : (Instr.index 138 (.agg rcC) (.int .i64 (k : Int))).run Tryz.prog W = .ok (.int .u64 ((rcL.getD k 0 : Nat) : Int)) W := by
  have u := Tryz.underlying138
  have a3 := Tryz.isAgg26
  have z3 := Tryz.sizeOf26
  have hg := rcC_get k hk
  have hkI : (k : Int) < 24 := by omega
  unfold Instr.index
  simp only [Sem.run_bind, run_underlying u, Result.andThen_ok]
  simp [go_sem, part, asIntOf, a3, z3, hkI, hg]

theorem wpList_storeB {ops : Array Oper} {Q : Exit → Act → World → Prop} {a : Act} {w : World} {rest : List Oper} {o : Oper} (hg : o.guard = none) (ty : TypeId) (x y : Operand) (ho : o.op = .store ty x y) (B : Nat) (cells : Array Value)
    (hx : a.eval x = .pointer (some ⟨B, 0, none⟩)) (hy : a.eval y = .agg cells) (t : TypeId) (old : Array Value) (hh : Has w B t old) (hi : (Tryz.prog.info? ty).map (·.size) = some cells.size) (hold : old.size = cells.size) (h1 : cells.all (·.oneCell') = true)
    (h : wpList Tryz.prog ops Q rest (a.put o.dst undef) (w.setRow B cells)) : wpList Tryz.prog ops Q (o :: rest) a w :=
  wpList_store_row hg ty x y ho B cells hx hy t old hh hi hold h1 h
theorem wpList_loadB {ops : Array Oper} {Q : Exit → Act → World → Prop} {a : Act} {w : World} {rest : List Oper} {o : Oper} (hg : o.guard = none) (ty : TypeId) (x : Operand) (ho : o.op = .load ty x) (B : Nat) (hx : a.eval x = .pointer (some ⟨B, 0, none⟩)) (cs : Array Value) (hr : (loadVar ty ⟨B, 0, none⟩).run Tryz.prog w = .ok (.agg cs) w)
    (h : wpList Tryz.prog ops Q rest (a.put o.dst (.agg cs)) w) : wpList Tryz.prog ops Q (o :: rest) a w :=
  wpList_plain hg fun K hK => by
    unfold Oper.wp execOp
    simp only [ho, hx, Instr.loadAt, Instr.sureAddr, Sem.run_bind, Sem.run_pure, Result.andThen_ok, hr]
    exact hK _ _ h

theorem permK_succ (A : Nat → Nat) (k : Nat) (hk : k < 24) : permK A (k + 1) = rndN (permK A k) (rcL.getD k 0) := by
  have hl : k < rcL.length := hk
  unfold permK
  rw [List.take_add_one, List.foldl_append, List.getElem?_eq_getElem hl]
  simp [List.getD_eq_getElem?_getD, List.getElem?_eq_getElem hl]
theorem rc_lt (k : Nat) : rcL.getD k 0 < 2 ^ 64 := by
  rcases Nat.lt_or_ge k 24 with h | h
  · have : ∀ j : Fin 24, rcL.getD j.val 0 < 2 ^ 64 := by decide
    exact this ⟨k, h⟩
  · rw [List.getD_eq_getElem?_getD, List.getElem?_eq_none (show rcL.length ≤ k from h)]; decide
theorem rndN_lt (A : Nat → Nat) (hA : ∀ j, A j < 2 ^ 64) (c : Nat) (hc : c < 2 ^ 64) (j : Nat) : rndN A c j < 2 ^ 64 := by
  unfold rndN
  have h := mixN_lt _ (turnK_lt _ (thetaN_lt A hA) 24)
  split
  · exact Nat.xor_lt_two_pow (h 0) hc
  · exact h j
theorem permK_lt (A : Nat → Nat) (hA : ∀ j, A j < 2 ^ 64) : ∀ k, k ≤ 24 → ∀ j, permK A k j < 2 ^ 64
  | 0, _, j => hA j
  | k + 1, h, j => by rw [permK_succ A k (by omega)]; exact rndN_lt _ (permK_lt A hA k (by omega)) _ (rc_lt k) j

set_option maxRecDepth 100000 in
set_option maxHeartbeats 4000000 in
theorem permute_ret (A : Nat → Nat) (hA : ∀ j, A j < 2 ^ 64) : RetT Tryz.prog 81 #[.agg (luC 25 A)] (.agg (luC 25 (permN A))) := by
  intro w HT
  have hw0 := HT.lt
  have HTH := Lib.hid theta_calls
  have HTU := Lib.hid turned_calls
  have HMI := Lib.hid mixed_calls
  have HL := Lib.hid (permK_lt A hA)
  have HS := Lib.hid (permK_succ A)
  go_enter Tryz.func81, Tryz.ntmps81
  have LA := (Has.new w 115 (luC 25 A)).alloc (.cells #[.int .u64 0, .int .u64 0, .int .u64 0, .int .u64 0, .int .u64 0, .int .u64 0, .int .u64 0, .int .u64 0, .int .u64 0, .int .u64 0, .int .u64 0, .int .u64 0, .int .u64 0, .int .u64 0, .int .u64 0, .int .u64 0, .int .u64 0, .int .u64 0, .int .u64 0, .int .u64 0, .int .u64 0, .int .u64 0, .int .u64 0, .int .u64 0, .int .u64 0] 115)
  have LR := Has.new (w.alloc (.cells (luC 25 A) 115)) 115 #[.int .u64 0, .int .u64 0, .int .u64 0, .int .u64 0, .int .u64 0, .int .u64 0, .int .u64 0, .int .u64 0, .int .u64 0, .int .u64 0, .int .u64 0, .int .u64 0, .int .u64 0, .int .u64 0, .int .u64 0, .int .u64 0, .int .u64 0, .int .u64 0, .int .u64 0, .int .u64 0, .int .u64 0, .int .u64 0, .int .u64 0, .int .u64 0, .int .u64 0]
  simp only [World.size_alloc] at LR
  have HT := (HT.alloc (.cells (luC 25 A) 115)).alloc (.cells #[.int .u64 0, .int .u64 0, .int .u64 0, .int .u64 0, .int .u64 0, .int .u64 0, .int .u64 0, .int .u64 0, .int .u64 0, .int .u64 0, .int .u64 0, .int .u64 0, .int .u64 0, .int .u64 0, .int .u64 0, .int .u64 0, .int .u64 0, .int .u64 0, .int .u64 0, .int .u64 0, .int .u64 0, .int .u64 0, .int .u64 0, .int .u64 0, .int .u64 0] 115)
  have Q := ((Below.refl w.heap.size w).alloc (Nat.le_refl _) (.cells (luC 25 A) 115)).alloc (by simp) (.cells #[.int .u64 0, .int .u64 0, .int .u64 0, .int .u64 0, .int .u64 0, .int .u64 0, .int .u64 0, .int .u64 0, .int .u64 0, .int .u64 0, .int .u64 0, .int .u64 0, .int .u64 0, .int .u64 0, .int .u64 0, .int .u64 0, .int .u64 0, .int .u64 0, .int .u64 0, .int .u64 0, .int .u64 0, .int .u64 0, .int .u64 0, .int .u64 0, .int .u64 0] 115)
  have H24 := Lib.hid (load24 HT)
  go_wp2_with (refine wpList_loadB rfl _ _ rfl 0 rfl _ H24.out ?_)
  have Z0 : luC 25 (fun _ => 0) = #[.int .u64 0, .int .u64 0, .int .u64 0, .int .u64 0, .int .u64 0, .int .u64 0, .int .u64 0, .int .u64 0, .int .u64 0, .int .u64 0, .int .u64 0, .int .u64 0, .int .u64 0, .int .u64 0, .int .u64 0, .int .u64 0, .int .u64 0, .int .u64 0, .int .u64 0, .int .u64 0, .int .u64 0, .int .u64 0, .int .u64 0, .int .u64 0, .int .u64 0] := rfl
  obtain ⟨W0, hW0⟩ : ∃ W0, (w.alloc (.cells (luC 25 A) 115)).alloc (.cells #[.int .u64 0, .int .u64 0, .int .u64 0, .int .u64 0, .int .u64 0, .int .u64 0, .int .u64 0, .int .u64 0, .int .u64 0, .int .u64 0, .int .u64 0, .int .u64 0, .int .u64 0, .int .u64 0, .int .u64 0, .int .u64 0, .int .u64 0, .int .u64 0, .int .u64 0, .int .u64 0, .int .u64 0, .int .u64 0, .int .u64 0, .int .u64 0, .int .u64 0] 115) = W0 := ⟨_, rfl⟩
  rw [hW0] at LA LR HT Q ⊢
  rw [← Z0] at LR
  clear hW0 H24 Z0
  go_loopw [6] (fun i wr => ∃ k : Nat, k ≤ 24 ∧ i = .int .i64 (k : Int) ∧ Has wr w.heap.size 115 (luC 25 (permK A k)) ∧ Has wr (w.heap.size + 1) 115 (luC 25 fun _ => 0) ∧ Tab wr ∧ Below w.heap.size w wr) (fun i _ => 24 - (intOf i).toNat)
  case atStart => exact ⟨0, by omega, rfl, LA, LR, HT, Q⟩
  case round =>
    clear LA LR HT Q
    obtain ⟨k, hk, rfl, LA, LR, HT, Q⟩ := hrel
    by_cases hlt : k < 24
    · have hkI : (k : Int) < 24 := by omega
      have hix := index24 k hlt wr
      have HC := Lib.hid (rc_lt k)
      have hP := HL.out k (by omega)
      have HS' := Lib.hid (HS.out k hlt)
      have HLT := Lib.hid hlt
      clear hk hlt HL HS
      generalize hPe : permK A k = P at *
      clear hPe
      generalize rcL.getD k 0 = c at *
      have hth := fun j => thetaN_lt P hP j
      have htu := fun j => turnK_lt _ hth 24 j
      have hmi := fun j => mixN_lt _ htu j
      have HX := Lib.hid (xor_i (mixN (turnK (thetaN P) 24) 0) c (hmi 0) HC.out)
      have HSr : Hid (∀ i, i < 25 → permK A (k + 1) i = if i = 0 then mixN (turnK (thetaN P) 24) 0 ^^^ c else mixN (turnK (thetaN P) 24) i) := Lib.hid (fun i _ => by rw [HS'.out]; rfl)
      go_wp2_with fail
      refine (HTH.out w.heap.size P hP _ LA).mono ?_
      rintro e w1 ⟨⟨v1, rfl⟩, L1, G⟩
      replace LR := LR.kept G (by simp)
      replace HT := HT.kept G hw0
      replace Q := below_of_grown Q G (Nat.le_refl _)
      clear G LA hix
      go_wp2_with fail
      refine (HTU.out w.heap.size _ hth _ L1).mono ?_
      rintro e w2 ⟨rfl, q⟩
      replace L1 := L1.later q
      replace LR := LR.later q
      replace HT := HT.later q
      replace Q := Q.trans (q.mono Q.size)
      clear q
      have H1 := Lib.hid L1
      go_wp2_with (refine wpList_storeB rfl _ _ _ rfl w.heap.size (luC 25 (turnK (thetaN P) 24)) rfl rfl _ _ H1.out (infoL _) (by rw [luC_size, luC_size]) (one_luC 25 _) ?_)
      replace L1 : Has (w2.setRow w.heap.size (luC 25 (turnK (thetaN P) 24))) w.heap.size 115 (luC 25 (turnK (thetaN P) 24)) := L1.rowK
      replace LR : Has (w2.setRow w.heap.size (luC 25 (turnK (thetaN P) 24))) (w.heap.size + 1) 115 (luC 25 fun _ => 0) := (setRow_other (by omega)).trans LR
      replace HT := HT.row hw0 (luC 25 (turnK (thetaN P) 24))
      replace Q := below_row Q (Nat.le_refl _) (luC 25 (turnK (thetaN P) 24))
      obtain ⟨w3, hw3⟩ : ∃ w3, w2.setRow w.heap.size (luC 25 (turnK (thetaN P) 24)) = w3 := ⟨_, rfl⟩
      rw [hw3] at L1 LR HT Q ⊢
      clear hw3 H1
      refine (HMI.out w.heap.size _ htu _ L1).mono ?_
      rintro e w4 ⟨rfl, q⟩
      replace L1 := L1.later q
      replace LR := LR.later q
      replace HT := HT.later q
      replace Q := Q.trans (q.mono Q.size)
      clear q
      have H1 := Lib.hid L1
      have L2 := Lib.hid (show Has (w4.setRow w.heap.size (luC 25 (mixN (turnK (thetaN P) 24)))) w.heap.size 115 (luC 25 (mixN (turnK (thetaN P) 24))) from L1.rowK)
      replace LR : Has (w4.setRow w.heap.size (luC 25 (mixN (turnK (thetaN P) 24)))) (w.heap.size + 1) 115 (luC 25 fun _ => 0) := (setRow_other (by omega)).trans LR
      replace HT := HT.row hw0 (luC 25 (mixN (turnK (thetaN P) 24)))
      replace Q := below_row Q (Nat.le_refl _) (luC 25 (mixN (turnK (thetaN P) 24)))
      have c0 := L2.out.cell 0 _ (luC_get 25 _ 0 (by omega))
      have z0 := L2.out.frozen 0
      have hx := HX.out
      have N1 := Lib.hid (L2.out.set 0 (.int .u64 ((mixN (turnK (thetaN P) 24) 0 ^^^ c : Nat) : Int)))
      rw [luC_set 25 _ (permK A (k + 1)) 0 _ HSr.out] at N1
      have N2 := Lib.hid (LR.other (p := ⟨w.heap.size, 0, none⟩) (by simp) (.int .u64 ((mixN (turnK (thetaN P) 24) 0 ^^^ c : Nat) : Int)))
      have N3 := Lib.hid (HT.other (p := ⟨w.heap.size, 0, none⟩) hw0 (.int .u64 ((mixN (turnK (thetaN P) 24) 0 ^^^ c : Nat) : Int)))
      have N4 := Lib.hid (Q.setCell (p := ⟨w.heap.size, 0, none⟩) (Nat.le_refl _) (.int .u64 ((mixN (turnK (thetaN P) 24) 0 ^^^ c : Nat) : Int)))
      clear L1 LR HT Q HX HSr HC HS' hth htu hmi hP
      generalize mixN (turnK (thetaN P) 24) 0 ^^^ c = r at *
      generalize mixN (turnK (thetaN P) 24) 0 = m0 at *
      generalize mixN (turnK (thetaN P) 24) = M at *
      go_wp2_with (refine wpList_storeB rfl _ _ _ rfl w.heap.size (luC 25 M) rfl rfl _ _ H1.out (infoL _) (by rw [luC_size, luC_size]) (one_luC 25 _) ?_)
      go_roundw
      case rel => exact ⟨k + 1, by have := HLT.out; omega, by simp, N1.out, N2.out, N3.out, N4.out⟩
      case measure => simp [intOf]; omega
    · obtain rfl : k = 24 := by omega
      have HA := Lib.hid (load25 LA)
      have HR := Lib.hid LR
      have HQ := Lib.hid (below_row (B := w.heap.size + 1) Q (by omega) (luC 25 (permK A 24)))
      have HR2 : Hid (Has (wr.setRow (w.heap.size + 1) (luC 25 (permK A 24))) (w.heap.size + 1) 115 (luC 25 (permK A 24))) := Lib.hid LR.rowK
      clear LA LR HT Q hk hlt
      go_wp2_with (first | (refine wpList_loadB rfl _ _ rfl w.heap.size rfl _ HA.out ?_) | (refine wpList_storeB rfl _ _ _ rfl (w.heap.size + 1) (luC 25 (permK A 24)) rfl rfl _ _ HR.out (infoL _) (by rw [luC_size, luC_size]) (one_luC 25 _) ?_))
      refine bodyPost_ret (results_cell_row rfl _ _ (w.heap.size + 1) _ _ (0, 0) _ rfl HR2.out Tryz.underlying115 rfl (infoL _)) rfl ⟨rfl, HQ.out⟩
end Go.Proofs.YtadfkiebblmfkaaGreatDoor
