/- chi: what 'mixed' makes of lanes. For all lanes. -/
import Derived.Test.YtobdjakflknlcaaDoorKecE
namespace Go.Proofs.YtobdjakflknlcaaDoor
open Go Go.RowKit Go.Shelf
attribute [local go_sem] Oper.semAt_some Grows wide_fn field0

theorem bits_andNot_i (a b : Nat) (ha : a < 2 ^ 64) (hb : b < 2 ^ 64) : bits .andNot .u64 (a : Int) (b : Int) = ((a &&& (18446744073709551615 ^^^ b) : Nat) : Int) := by
  have hx : a &&& (18446744073709551615 ^^^ b) < 2 ^ 64 := Nat.and_lt_two_pow _ (Nat.xor_lt_two_pow (by decide) hb)
  have h1 : (BitVec.ofInt 64 (a : Int)).toNat = a := by
    rw [BitVec.ofInt_natCast, BitVec.toNat_ofNat]; exact Nat.mod_eq_of_lt ha
  have h2 : (BitVec.ofInt 64 (b : Int)).toNat = b := by
    rw [BitVec.ofInt_natCast, BitVec.toNat_ofNat]; exact Nat.mod_eq_of_lt hb
  show IntKind.u64.wrap ((BitVec.ofInt 64 (a : Int) &&& ~~~BitVec.ofInt 64 (b : Int)).toNat : Int) = _
  rw [BitVec.not_def, BitVec.toNat_and, BitVec.toNat_xor, BitVec.toNat_allOnes, h1, h2, IntKind.wrap_u64]
  rw [show (2 : Nat) ^ 64 - 1 = 18446744073709551615 from rfl]
  omega
theorem plane2_ret (k on : Nat) (hk : k < 25) : Ret Tryd.prog 26 #[.agg #[.int .u64 (((k % 5 + on) % 5 : Nat) : Int), .int .u64 ((k / 5 : Nat) : Int)]] (.int .u64 ((5 * (k / 5) + (k % 5 + on) % 5 : Nat) : Int)) :=
  (lane_ret _ _ ⟨by omega, by omega⟩ ⟨by omega, by omega⟩).of_eq rfl (by congr 1)
/-- What is made behind k places. -/
def mixK (A : Nat → Nat) (k j : Nat) : Nat := if j < k then mixN A j else 0


set_option maxRecDepth 100000 in
set_option maxHeartbeats 4000000 in
theorem mixed_calls (B : Nat) (A : Nat → Nat) (hA : ∀ j, A j < 2 ^ 64) (w : World) (hB : Has w B 24 (luC 25 A)) :
    Calls Tryd.prog 14 #[.pointer (some ⟨B, 0, none⟩)] w fun e w' => e = .returned (.agg (luC 25 (mixN A))) ∧ Below w.heap.size w w' := by
  have hBl := hB.lt
  have hmx : Tryd.prog.follows .mixedOrders = true := by kernel_rfl
  refine (callsIn_wide (n := 8)).1 ?_
  refine callsIn_of_wp_marks Tryd.func14 rfl trivial ?_ rfl
  simp only [Tryd.ntmps14, List.size_toArray, List.length_cons, List.length_nil, Nat.reduceAdd, Nat.reduceSub, Array.replicate_succ, Array.replicate_zero, List.push_toArray, List.append_toArray, List.nil_append, List.cons_append]
  gi_wp2
  have hI0 : TuSt w B A (mixK A 0) (((w.alloc (.cells #[.pointer (some ⟨B, 0, none⟩)] 37)).alloc (.cells #[.int .u64 0, .int .u64 0, .int .u64 0, .int .u64 0, .int .u64 0, .int .u64 0, .int .u64 0, .int .u64 0, .int .u64 0, .int .u64 0, .int .u64 0, .int .u64 0, .int .u64 0, .int .u64 0, .int .u64 0, .int .u64 0, .int .u64 0, .int .u64 0, .int .u64 0, .int .u64 0, .int .u64 0, .int .u64 0, .int .u64 0, .int .u64 0, .int .u64 0] 24)).alloc (.cells #[.int .u64 0, .int .u64 0, .int .u64 0, .int .u64 0, .int .u64 0, .int .u64 0, .int .u64 0, .int .u64 0, .int .u64 0, .int .u64 0, .int .u64 0, .int .u64 0, .int .u64 0, .int .u64 0, .int .u64 0, .int .u64 0, .int .u64 0, .int .u64 0, .int .u64 0, .int .u64 0, .int .u64 0, .int .u64 0, .int .u64 0, .int .u64 0, .int .u64 0] 24)) := by
    have L1 := ((hB.alloc (.cells #[.pointer (some ⟨B, 0, none⟩)] 37)).alloc (.cells #[.int .u64 0, .int .u64 0, .int .u64 0, .int .u64 0, .int .u64 0, .int .u64 0, .int .u64 0, .int .u64 0, .int .u64 0, .int .u64 0, .int .u64 0, .int .u64 0, .int .u64 0, .int .u64 0, .int .u64 0, .int .u64 0, .int .u64 0, .int .u64 0, .int .u64 0, .int .u64 0, .int .u64 0, .int .u64 0, .int .u64 0, .int .u64 0, .int .u64 0] 24)).alloc (.cells #[.int .u64 0, .int .u64 0, .int .u64 0, .int .u64 0, .int .u64 0, .int .u64 0, .int .u64 0, .int .u64 0, .int .u64 0, .int .u64 0, .int .u64 0, .int .u64 0, .int .u64 0, .int .u64 0, .int .u64 0, .int .u64 0, .int .u64 0, .int .u64 0, .int .u64 0, .int .u64 0, .int .u64 0, .int .u64 0, .int .u64 0, .int .u64 0, .int .u64 0] 24)
    have L2 := ((Has.new w 37 #[.pointer (some ⟨B, 0, none⟩)]).alloc (.cells #[.int .u64 0, .int .u64 0, .int .u64 0, .int .u64 0, .int .u64 0, .int .u64 0, .int .u64 0, .int .u64 0, .int .u64 0, .int .u64 0, .int .u64 0, .int .u64 0, .int .u64 0, .int .u64 0, .int .u64 0, .int .u64 0, .int .u64 0, .int .u64 0, .int .u64 0, .int .u64 0, .int .u64 0, .int .u64 0, .int .u64 0, .int .u64 0, .int .u64 0] 24)).alloc (.cells #[.int .u64 0, .int .u64 0, .int .u64 0, .int .u64 0, .int .u64 0, .int .u64 0, .int .u64 0, .int .u64 0, .int .u64 0, .int .u64 0, .int .u64 0, .int .u64 0, .int .u64 0, .int .u64 0, .int .u64 0, .int .u64 0, .int .u64 0, .int .u64 0, .int .u64 0, .int .u64 0, .int .u64 0, .int .u64 0, .int .u64 0, .int .u64 0, .int .u64 0] 24)
    have L3 := (Has.new (w.alloc (.cells #[.pointer (some ⟨B, 0, none⟩)] 37)) 24 #[.int .u64 0, .int .u64 0, .int .u64 0, .int .u64 0, .int .u64 0, .int .u64 0, .int .u64 0, .int .u64 0, .int .u64 0, .int .u64 0, .int .u64 0, .int .u64 0, .int .u64 0, .int .u64 0, .int .u64 0, .int .u64 0, .int .u64 0, .int .u64 0, .int .u64 0, .int .u64 0, .int .u64 0, .int .u64 0, .int .u64 0, .int .u64 0, .int .u64 0]).alloc (.cells #[.int .u64 0, .int .u64 0, .int .u64 0, .int .u64 0, .int .u64 0, .int .u64 0, .int .u64 0, .int .u64 0, .int .u64 0, .int .u64 0, .int .u64 0, .int .u64 0, .int .u64 0, .int .u64 0, .int .u64 0, .int .u64 0, .int .u64 0, .int .u64 0, .int .u64 0, .int .u64 0, .int .u64 0, .int .u64 0, .int .u64 0, .int .u64 0, .int .u64 0] 24)
    have L4 := Has.new ((w.alloc (.cells #[.pointer (some ⟨B, 0, none⟩)] 37)).alloc (.cells #[.int .u64 0, .int .u64 0, .int .u64 0, .int .u64 0, .int .u64 0, .int .u64 0, .int .u64 0, .int .u64 0, .int .u64 0, .int .u64 0, .int .u64 0, .int .u64 0, .int .u64 0, .int .u64 0, .int .u64 0, .int .u64 0, .int .u64 0, .int .u64 0, .int .u64 0, .int .u64 0, .int .u64 0, .int .u64 0, .int .u64 0, .int .u64 0, .int .u64 0] 24)) 24 #[.int .u64 0, .int .u64 0, .int .u64 0, .int .u64 0, .int .u64 0, .int .u64 0, .int .u64 0, .int .u64 0, .int .u64 0, .int .u64 0, .int .u64 0, .int .u64 0, .int .u64 0, .int .u64 0, .int .u64 0, .int .u64 0, .int .u64 0, .int .u64 0, .int .u64 0, .int .u64 0, .int .u64 0, .int .u64 0, .int .u64 0, .int .u64 0, .int .u64 0]
    simp only [World.size_alloc] at L3 L4
    have Q := (((Below.refl w.heap.size w).alloc (Nat.le_refl _) (.cells #[.pointer (some ⟨B, 0, none⟩)] 37)).alloc (by simp) (.cells #[.int .u64 0, .int .u64 0, .int .u64 0, .int .u64 0, .int .u64 0, .int .u64 0, .int .u64 0, .int .u64 0, .int .u64 0, .int .u64 0, .int .u64 0, .int .u64 0, .int .u64 0, .int .u64 0, .int .u64 0, .int .u64 0, .int .u64 0, .int .u64 0, .int .u64 0, .int .u64 0, .int .u64 0, .int .u64 0, .int .u64 0, .int .u64 0, .int .u64 0] 24)).alloc (by simp; omega) (.cells #[.int .u64 0, .int .u64 0, .int .u64 0, .int .u64 0, .int .u64 0, .int .u64 0, .int .u64 0, .int .u64 0, .int .u64 0, .int .u64 0, .int .u64 0, .int .u64 0, .int .u64 0, .int .u64 0, .int .u64 0, .int .u64 0, .int .u64 0, .int .u64 0, .int .u64 0, .int .u64 0, .int .u64 0, .int .u64 0, .int .u64 0, .int .u64 0, .int .u64 0] 24)
    exact ⟨L1, L2, L3, L4, Q⟩
  obtain ⟨W0, hW0⟩ : ∃ W0, (((w.alloc (.cells #[.pointer (some ⟨B, 0, none⟩)] 37)).alloc (.cells #[.int .u64 0, .int .u64 0, .int .u64 0, .int .u64 0, .int .u64 0, .int .u64 0, .int .u64 0, .int .u64 0, .int .u64 0, .int .u64 0, .int .u64 0, .int .u64 0, .int .u64 0, .int .u64 0, .int .u64 0, .int .u64 0, .int .u64 0, .int .u64 0, .int .u64 0, .int .u64 0, .int .u64 0, .int .u64 0, .int .u64 0, .int .u64 0, .int .u64 0] 24)).alloc (.cells #[.int .u64 0, .int .u64 0, .int .u64 0, .int .u64 0, .int .u64 0, .int .u64 0, .int .u64 0, .int .u64 0, .int .u64 0, .int .u64 0, .int .u64 0, .int .u64 0, .int .u64 0, .int .u64 0, .int .u64 0, .int .u64 0, .int .u64 0, .int .u64 0, .int .u64 0, .int .u64 0, .int .u64 0, .int .u64 0, .int .u64 0, .int .u64 0, .int .u64 0] 24)) = W0 := ⟨_, rfl⟩
  have hsz : W0.heap.size = w.heap.size + 3 := by rw [← hW0]; simp
  rw [hW0] at hI0 ⊢
  clear hW0
  refine wpIn_rangeFunc_N rfl (by omega) (gf := 25) (lb := #[]) rfl trivial (enters_of Tryd.func25 (by kernel_rfl) rfl)
    (places_seq _ (by omega) (fun _ _ => True) W0) (fun _ _ => trivial) (fun _ _ _ _ _ _ _ _ => trivial) (fun _ _ => rfl)
    (fun k W => TuSt w B A (mixK A k) W) (fun _ _ _ => False) (TuSt.own w B _ (by omega) A (mixK A)) (fun _ _ _ _ _ hs _ _ => hs) hI0
    (fun k a' V => ∃ b, Has V b 52 #[.int .u64 ((k % 5 : Nat) : Int), .int .u64 ((k / 5 : Nat) : Int)] ∧ a' = { tmps := #[.pointer (some ⟨B, 0, none⟩), .pointer (some ⟨w.heap.size, 0, none⟩), .pointer (some ⟨w.heap.size + 1, 0, none⟩), .pointer (some ⟨w.heap.size + 1 + 1, 0, none⟩), .pointer (some ⟨b, 0, none⟩), .agg #[.int .u64 ((k % 5 : Nat) : Int), .int .u64 ((k / 5 : Nat) : Int)], undef, undef, undef, undef, undef, undef, undef, undef, undef, undef, undef, undef, undef, undef, undef, undef, undef, undef, undef, undef, undef, undef, undef, undef, undef, undef], defers := [] })
    (fun k a' _ X Y row hs hg hr => by obtain ⟨b, hH, e⟩ := hs; exact ⟨b, hH.grown hg (fun r e => (hr r e).2), e⟩) ?assign ?body ?done ?stop
  case assign =>
    intro l k W K hkN hst hK
    rw [plV_eq]
    have HST := Lib.hid hst
    clear hst hkN hI0
    have HK := Lib.hid hK
    clear hK
    gi_wp2
    exact HK.out _ _ ((KeepsOthers.alloc _ _).from _) trivial (HST.out.later ((Below.refl _ _).alloc (Nat.le_refl _) _)) ⟨_, Has.new _ _ _, rfl⟩
  case body =>
    rintro l k a' W hl hlo hkN hst ⟨b, hH, rfl⟩
    have hi1 : 5 * (k / 5) + (k % 5 + 1) % 5 < 25 := by omega
    have hi2 : 5 * (k / 5) + (k % 5 + 2) % 5 < 25 := by omega
    have hS' : ∀ i, i < 25 → mixK A (k + 1) i = if i = k then mixN A k else mixK A k i := fun i _ => by
      unfold mixK
      by_cases e : i = k
      · rw [if_pos e, if_pos (by omega), e]
      · rw [if_neg e]
        by_cases e2 : i < k
        · rw [if_pos e2, if_pos (by omega)]
        · rw [if_neg e2, if_neg (by omega)]
    have hA2 := hA (5 * (k / 5) + (k % 5 + 2) % 5)
    have hA1 := hA (5 * (k / 5) + (k % 5 + 1) % 5)
    have hx1 := bits_andNot_i _ _ hA2 hA1
    have hx2 := xor_i (A k) (A (5 * (k / 5) + (k % 5 + 2) % 5) &&& (18446744073709551615 ^^^ A (5 * (k / 5) + (k % 5 + 1) % 5))) (hA k) (Nat.and_lt_two_pow _ (Nat.xor_lt_two_pow (by decide) hA1))
    rw [show A k ^^^ (A (5 * (k / 5) + (k % 5 + 2) % 5) &&& (18446744073709551615 ^^^ A (5 * (k / 5) + (k % 5 + 1) % 5))) = mixN A k from rfl] at hx2
    have HL := Lib.hid (plane_ret k hkN)
    have HL2 := Lib.hid (plane2_ret k 2 hkN)
    have HL1 := Lib.hid (plane2_ret k 1 hkN)
    have HB2 : Hid (Ret Tryd.prog 27 #[.agg #[.int .u64 ((k % 5 : Nat) : Int), .int .u64 ((k / 5 : Nat) : Int)], .int .u64 2] (.agg #[.int .u64 (((k % 5 + 2) % 5 : Nat) : Int), .int .u64 ((k / 5 : Nat) : Int)])) := Lib.hid (pbes_ret k 2 (by omega))
    have HB1 : Hid (Ret Tryd.prog 27 #[.agg #[.int .u64 ((k % 5 : Nat) : Int), .int .u64 ((k / 5 : Nat) : Int)], .int .u64 1] (.agg #[.int .u64 (((k % 5 + 1) % 5 : Nat) : Int), .int .u64 ((k / 5 : Nat) : Int)])) := Lib.hid (pbes_ret k 1 (by omega))
    have kb0 : ∀ x : Ext W, x.w.cell? ⟨b, 0, none⟩ = some (.int .u64 ((k % 5 : Nat) : Int)) := fun x => (hH.later x.below).cell 0 _ rfl
    have kb1 : ∀ x : Ext W, x.w.cell? ⟨b, 1, none⟩ = some (.int .u64 ((k / 5 : Nat) : Int)) := fun x => (hH.later x.below).cell 1 _ rfl
    have kM : ∀ x : Ext W, x.w.cell? ⟨w.heap.size + 1 + 1, k, none⟩ = some (.int .u64 ((mixK A k k : Nat) : Int)) := fun x => (hst.M.later x.below).cell _ _ (luC_get 25 _ _ hkN)
    have kA0 : ∀ x : Ext W, x.w.cell? ⟨B, k, none⟩ = some (.int .u64 ((A k : Nat) : Int)) := fun x => (hst.A.later x.below).cell _ _ (luC_get 25 _ _ hkN)
    have kA1 : ∀ x : Ext W, x.w.cell? ⟨B, 5 * (k / 5) + (k % 5 + 1) % 5, none⟩ = some (.int .u64 ((A (5 * (k / 5) + (k % 5 + 1) % 5) : Nat) : Int)) := fun x => (hst.A.later x.below).cell _ _ (luC_get 25 _ _ hi1)
    have kA2 : ∀ x : Ext W, x.w.cell? ⟨B, 5 * (k / 5) + (k % 5 + 2) % 5, none⟩ = some (.int .u64 ((A (5 * (k / 5) + (k % 5 + 2) % 5) : Nat) : Int)) := fun x => (hst.A.later x.below).cell _ _ (luC_get 25 _ _ hi2)
    have kP : ∀ x : Ext W, x.w.cell? ⟨w.heap.size, 0, none⟩ = some (.pointer (some ⟨B, 0, none⟩)) := fun x => (hst.P.later x.below).cell 0 _ rfl
    have kz : ∀ x : Ext W, x.w.frozen? ⟨w.heap.size + 1 + 1, k, none⟩ = false := fun x => (hst.M.later x.below).frozen _
    generalize mixN A k = r at *
    generalize mixK A k k = m0 at *
    generalize A (5 * (k / 5) + (k % 5 + 2) % 5) &&& (18446744073709551615 ^^^ A (5 * (k / 5) + (k % 5 + 1) % 5)) = r1 at *
    generalize A (5 * (k / 5) + (k % 5 + 2) % 5) = a2 at *
    generalize A (5 * (k / 5) + (k % 5 + 1) % 5) = a1 at *
    generalize A k = ak at *
    generalize 5 * (k / 5) + (k % 5 + 2) % 5 = i2 at *
    generalize 5 * (k / 5) + (k % 5 + 1) % 5 = i1 at *
    generalize (((k % 5 + 2) % 5 : Nat) : Int) = x2 at *
    generalize (((k % 5 + 1) % 5 : Nat) : Int) = x1 at *
    generalize ((k % 5 : Nat) : Int) = x0 at *
    generalize ((k / 5 : Nat) : Int) = y0 at *
    have hk5I : (k : Int) < 25 := by omega
    have hi1I : (i1 : Int) < 25 := by omega
    have hi2I : (i2 : Int) < 25 := by omega
    have HST := Lib.hid hst
    have HS' := Lib.hid hS'
    clear hst hH hS' hkN hI0 hi1 hi2 hA1 hA2
    gi_wp2_with fail
    refine wpIn_region_mix (C := Grows W) (free_round l) [some true, some true, some true, some true, some true, some true, some true, some true, some true, some true, some true, some true, some true, some true, some true, some true, some true, some true, some true, some true, some true, some true, some true, some true, some true, none] hmx (by kernel_rfl) (by kernel_rfl) (grows_refl W) ?_
    simp only [headOf, tailOf]
    repeat (go_big_quiet_step (first | (with_reducible exact Ret.at HL.out _) | (with_reducible exact Ret.at HL1.out _) | (with_reducible exact Ret.at HL2.out _) | (with_reducible exact Ret.at HB1.out _) | (with_reducible exact Ret.at HB2.out _)))
    refine wpQuiet_nil ?_
    rintro _ ⟨x, rfl⟩
    have H2 := Lib.hid ((HST.out.later x.below).put hBl k r HS'.out)
    have HKP := Lib.hid (x.keeps W0.heap.size)
    have kz' := kz x
    have kM' := kM x
    clear kz kM kA0 kA1 kA2 kP kb0 kb1
    go_wp2
    rw [calmPost_normal]
    gi_wp2
    exact ⟨HKP.out.trans ((KeepsOthers.setCell _ _ _).from _), trivial, H2.out⟩
  case done =>
    rintro D W hD hst0 hK
    have hst : TuSt w B A (mixN A) W := ⟨hst0.A, hst0.P, hst0.R, by rw [luC_congr 25 (mixN A) (mixK A 25) (fun j hj => by unfold mixK; rw [if_pos hj])]; exact hst0.M, hst0.Q⟩
    clear hst0
    have hDR : D ≠ w.heap.size + 1 := by omega
    have HM := Lib.hid (load25 hst.M)
    have HRR := Lib.hid hst.R
    have HQ := Lib.hid (below_row (B := w.heap.size + 1) hst.Q (by omega) (luC 25 (mixN A)))
    have HR2 : Hid (Has (W.setRow (w.heap.size + 1) (luC 25 (mixN A))) (w.heap.size + 1) 24 (luC 25 (mixN A))) := Lib.hid hst.R.row
    have HK2 : Hid ((W.setRow (w.heap.size + 1) (luC 25 (mixN A))).heap[D]? = some (.deferred (some []))) := Lib.hid ((setRow_other hDR).trans hK)
    have HIL := Lib.hid (infoL (mixN A))
    have HIO := Lib.hid (one_luC 25 (mixN A))
    clear hst hK hI0
    gi_wp2_with (first | (refine wpListIn_loadB free_wide rfl _ _ rfl (w.heap.size + 1 + 1) rfl _ HM.out ?_) | (refine wpListIn_storeB free_wide rfl _ _ _ rfl (w.heap.size + 1) (luC 25 (mixN A)) rfl rfl _ _ HRR.out HIL.out (by rw [luC_size, luC_size]) HIO.out ?_))
    have R6 : Has ((W.setRow (w.heap.size + 1) (luC 25 (mixN A))).putObj D (.deferred none)) (w.heap.size + 1) 24 (luC 25 (mixN A)) := (World.putObj_heap_other (fun e => hDR e.symm)).trans HR2.out
    have Q6 : Below w.heap.size w ((W.setRow (w.heap.size + 1) (luC 25 (mixN A))).putObj D (.deferred none)) := HQ.out.trans (belowK_b (w := w) (Nat.le_refl _) _ D _ _ (by omega) HK2.out rfl rfl)
    refine ⟨by simp, .inl ⟨_, _, rfl, run_takeDeferred HK2.out, ?_⟩⟩
    exact ⟨_, results_cell_row rfl _ _ (w.heap.size + 1) _ _ (0, 0) _ rfl R6 Tryd.underlying24 rfl (infoL _), rfl, Q6⟩
  case stop =>
    rintro D c k W _ _ h _
    exact h.elim
end Go.Proofs.YtobdjakflknlcaaDoor
