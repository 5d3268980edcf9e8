/- '==' of keys; Index, Contains. Conditions: the keys lie in memory. -/
import Derived.Test.YtbkgipggblphlaaAcF
namespace Go.Proofs.Ytbkgipggblphlaa
open Go Go.RowKit
attribute [local go_sem] Oper.semAt_some Grows wide_fn

theorem eq4k (k : Nat) (a b c d a' b' c' d' : Int) (w : World) : (Op.equalIn (k + 2) 29 (.agg #[.int .u64 a, .int .u64 b, .int .u64 c, .int .u64 d]) (.agg #[.int .u64 a', .int .u64 b', .int .u64 c', .int .u64 d'])).run Try.prog w = .ok (a == a' && b == b' && c == c' && d == d') w := by
  have u3 := Try.underlying27
  have a3 := Try.isAgg27
  have z3 := Try.sizeOf27
  rw [Op.equalIn]
  simp only [Sem.run_bind, run_underlying Try.underlying29, Result.andThen_ok]
  simp only [Std.Legacy.Range.forIn_eq_forIn_range', Std.Legacy.Range.size, Nat.sub_zero, Nat.add_sub_cancel, Nat.div_one, List.range'_succ, List.range'_zero, List.forIn_cons, List.forIn_nil]
  go_simp
  by_cases h1 : a = a' <;> by_cases h2 : b = b' <;> by_cases h3 : c = c' <;> by_cases h4 : d = d' <;> simp [h1, h2, h3, h4]
theorem eq_loop20k (D A B : Nat) (w : World) : ∀ l : List Nat, (∀ i, i ∈ l → i < 20) →
    (forIn (m := Sem) l ((none : Option Bool), ()) fun i _ => do
      let x ← part 5 (adC A) i
      let y ← part 5 (adC B) i
      let r ← Op.equalIn (D + 1) 5 x y
      if (!r) = true then pure (ForInStep.done (some false, ())) else pure (ForInStep.yield (none, ()))).run Try.prog w = .ok (if l.all (fun j => adB A j == adB B j) = true then (none, ()) else (some false, ())) w
  | [], _ => by simp [go_sem]
  | i :: l, hl => by
    have hi := hl i (by simp)
    have ih := eq_loop20k D A B w l (fun j hj => hl j (by simp [hj]))
    rw [List.forIn_cons]
    simp only [Sem.run_bind, part20 A i hi, part20 B i hi, equal_u8 D, Result.andThen_ok]
    by_cases h : adB A i = adB B i
    · have hb : (((adB A i : Nat) : Int) == ((adB B i : Nat) : Int)) = true := by rw [h]; exact beq_self_eq_true _
      have hn : (adB A i == adB B i) = true := by rw [h]; exact beq_self_eq_true _
      simp only [hb, Bool.not_true, Bool.false_eq_true, if_false, Sem.run_pure, Result.andThen_ok, List.all_cons, hn, Bool.true_and]
      exact ih
    · have hb : (((adB A i : Nat) : Int) == ((adB B i : Nat) : Int)) = false := beq_eq_false_iff_ne.2 (by omega)
      have hn : (adB A i == adB B i) = false := beq_eq_false_iff_ne.2 h
      simp only [hb, Bool.not_false, if_true, Sem.run_pure, Result.andThen_ok, List.all_cons, hn, Bool.false_and, Bool.false_eq_true, if_false]
theorem eq20k (D : Nat) (a b : Nat) (ha : a < 256 ^ 20) (hb : b < 256 ^ 20) (w : World) : (Op.equalIn (D + 2) 26 (.agg (adC a)) (.agg (adC b))).run Try.prog w = .ok (decide (a = b)) w := by
  have z3 := Try.sizeOf5
  rw [← eqA_iff ha hb]
  rw [Op.equalIn]
  simp only [Sem.run_bind, run_underlying Try.underlying26, Result.andThen_ok, z3]
  simp only [Std.Legacy.Range.forIn_eq_forIn_range', Std.Legacy.Range.size, Nat.sub_zero, Nat.add_sub_cancel, Nat.div_one, Nat.mul_one]
  rw [eq_loop20k D a b w (List.range' 0 20) (fun i hi => by rw [List.mem_range'_1] at hi; omega)]
  rw [show List.range' 0 20 = List.range 20 from rfl]
  show Result.andThen (.ok (if eqA a b = true then (none, ()) else (some false, ())) w) _ = _
  cases h : eqA a b <;> simp [go_sem]
theorem equal_bool (d : Nat) (x y : Bool) (w : World) : (Op.equalIn (d + 1) 4 (.bool x) (.bool y)).run Try.prog w = .ok (x == y) w := by
  rw [Op.equalIn]
  simp only [Sem.run_bind, run_underlying Try.underlying4, Result.andThen_ok]
  simp [go_sem]
theorem kyPart0 (x : Ky) : (kyC x).extract 0 20 = adC x.at_ := by
  unfold kyC kyL adC
  simp [adL_len, List.extract_eq_take_drop]
theorem kyPart2 (x : Ky) : (kyC x).extract 21 25 = #[.int .u64 (lim x.key 0), .int .u64 (lim x.key 1), .int .u64 (lim x.key 2), .int .u64 (lim x.key 3)] := by
  unfold kyC kyL
  have h : List.drop 21 (adL x.at_) = [] := List.drop_eq_nil_of_le (by rw [adL_len]; omega)
  simp [adL_len, List.extract_eq_take_drop, List.drop_append, h]
theorem eqKey (x y : Ky) (hx : KyOk x) (hy : KyOk y) (w : World) : (Op.equalIn 10000 31 (.agg (kyC x)) (.agg (kyC y))).run Try.prog w = .ok (decide (x = y)) w := by
  rw [show (10000 : Nat) = 9999 + 1 from rfl, run_equalIn_struct (P := Try.prog) w 9999 31 _ _ (by kernel_rfl) (by kernel_rfl)]
  have hf : (Try.prog.fieldsOf 31).toList.map (fun f => (f.name, f.type, f.offset)) = [("At", 26, 0), ("Slot", 4, 20), ("Key", 29, 21)] := by kernel_rfl
  generalize (Try.prog.fieldsOf 31).toList = l at hf
  rcases l with _ | ⟨p, _ | ⟨q, _ | ⟨r, _ | ⟨z, l⟩⟩⟩⟩
  · cases hf
  · simp at hf
  · simp at hf
  · simp only [List.map_cons, List.map_nil, List.cons.injEq, Prod.mk.injEq, and_true] at hf
    obtain ⟨⟨h1, h2, h3⟩, ⟨h4, h5, h6⟩, h7, h8, h9⟩ := hf
    have e1 := eq20k 9997 x.at_ y.at_ hx.at_ hy.at_ w
    have e2 := equal_bool 9998 x.slot y.slot w
    have e3 := eq4k 9997 (lim x.key 0) (lim x.key 1) (lim x.key 2) (lim x.key 3) (lim y.key 0) (lim y.key 1) (lim y.key 2) (lim y.key 3) w
    rw [eqv_k x.key y.key hx.key hy.key] at e3
    simp only [Nat.reduceAdd] at e1 e2 e3
    have p1 := kyPart0 x
    have p2 : (kyC x)[20]? = some (.bool x.slot) := kyC_more x 0
    have p3 := kyPart2 x
    have r1 := kyPart0 y
    have r2 : (kyC y)[20]? = some (.bool y.slot) := kyC_more y 0
    have r3 := kyPart2 y
    have hxy : decide (x = y) = (decide (x.at_ = y.at_) && (x.slot == y.slot) && decide (x.key = y.key)) := by
      obtain ⟨x1, x2, x3⟩ := x
      obtain ⟨y1, y2, y3⟩ := y
      simp only [Ky.mk.injEq, Bool.decide_and]
      cases x2 <;> cases y2 <;> simp
    rw [hxy]
    generalize kyC x = cx at *
    generalize kyC y = cy at *
    generalize decide (x.at_ = y.at_) = b1 at *
    generalize hb2 : (x.slot == y.slot) = b2 at e2 ⊢
    generalize decide (x.key = y.key) = b3 at *
    have a26 := Try.isAgg26
    have z26 := Try.sizeOf26
    have a29 := Try.isAgg29
    have z29 := Try.sizeOf29
    have a4 := Try.isAgg4
    unfold Op.eqFields Op.eqFields Op.eqFields Op.eqFields
    simp [h1, h2, h3, h4, h5, h6, h7, h8, h9, part, go_sem, a26, z26, a29, z29, a4, p1, p2, p3, r1, r2, r3, e1, e2, e3]
    clear h1 h2 h3 h4 h5 h6 h7 h8 h9 p1 p2 p3 r1 r2 r3 e1 e2 e3 hxy
    cases b1 <;> cases b2 <;> cases b3 <;> simp_all
  · simp at hf
set_option maxRecDepth 100000 in
set_option maxHeartbeats 4000000 in
theorem kindex_any (W : World) (sv : Value) (l : List Ky) (t : Ky) (ht : KyOk t) (hs : KeysAt W sv l) :
    Calls Try.prog 55 #[sv, .agg (kyC t)] W fun e w' => e = .returned (.int .i64 (idxK (fun k => decide (t = k)) l)) ∧ Below W.heap.size W w' := by
  have hmx : Try.prog.follows .mixedOrders = true := by kernel_rfl
  have hB := Has.new W 31 (kyC t)
  have hq0 := (Below.refl W.heap.size W).alloc (Nat.le_refl _) (.cells (kyC t) 31)
  obtain ⟨V, hV⟩ : ∃ V, W.alloc (.cells (kyC t) 31) = V := ⟨_, rfl⟩
  rw [hV] at hB hq0
  have HB := Lib.hid hB
  have HVQ := Lib.hid hq0
  clear hB hq0
  obtain ⟨an, capn, rfl, hnc, hcm⟩ := hs.shape
  have HS := Lib.hid hs
  obtain ⟨n, hn⟩ : ∃ n, l.length = n := ⟨_, rfl⟩
  rw [hn] at HS hnc ⊢
  have HN := Lib.hid hn
  have hlc := Lib.hid (Nat.le_trans hnc hcm)
  clear hs hnc hcm hn
  have hfin := Lib.hid (show ∀ X v, Below W.heap.size W X → idxK (fun k => decide (t = k)) l = v → (Ending.returned (.int .i64 v) = .returned (.int .i64 (idxK (fun k => decide (t = k)) l)) ∧ Below W.heap.size W X) from fun X v hX h => ⟨by rw [h], hX⟩)
  obtain ⟨Post, hPost⟩ : ∃ Post : Ending → World → Prop, (fun (e : Ending) (w' : World) => e = .returned (.int .i64 (idxK (fun k => decide (t = k)) l)) ∧ Below W.heap.size W w') = Post := ⟨_, rfl⟩
  replace hfin := Lib.hid (show ∀ X v, Below W.heap.size W X → idxK (fun k => decide (t = k)) l = v → Post (.returned (.int .i64 v)) X by rw [← hPost]; exact hfin.out)
  rw [hPost]
  clear hPost
  obtain ⟨ct, hct⟩ : ∃ ct, kyC t = ct := ⟨_, rfl⟩
  have HCT := Lib.hid hct
  rw [hct] at hV ⊢
  clear hct
  go_enter Try.func55, Try.ntmps55
  go_wp2_with fail
  go_loopw [8] (fun i wr => ∃ k : Nat, k ≤ n ∧ i = .int .i64 (k : Int) ∧ (∀ (j : Nat) (y : Ky), j < k → l[j]? = some y → decide (t = y) = false) ∧ Below V.heap.size V wr) (fun i _ => n - (intOf i).toNat)
  case atStart => exact ⟨0, Nat.zero_le _, rfl, fun j x h => absurd h (by omega), Below.refl _ _⟩
  case round =>
    obtain ⟨k, hk, rfl, hlt, hq⟩ := hrel
    have HLT := Lib.hid hlt
    have HQ := Lib.hid hq
    clear hlt hq
    have HQW := Lib.hid (HVQ.out.trans (HQ.out.mono HVQ.out.size))
    by_cases hkn : k < n
    · have hknI : (k : Int) < (n : Int) := by omega
      have hk0 : (0 : Int) ≤ (k : Int) := by omega
      have hkb : (k : Int) ≤ 9223372036854775806 := by have := hlc.out; omega
      obtain ⟨x, hx⟩ : ∃ x, l[k]? = some x := ⟨_, List.getElem?_eq_getElem (by have := HN.out; omega)⟩
      obtain ⟨b, rfl, ax⟩ := (HS.out.later HQW.out).at hx
      have LX := Lib.hid (show ∀ z : World, Grows wr z → (loadVar 31 (b.add (k * 25))).run Try.prog z = .ok (.agg (kyC x)) z from fun z hz => by obtain ⟨q, rfl⟩ := hz; exact (ax.later q.below).load)
      have LT := Lib.hid (show ∀ z : World, Grows wr z → (loadVar 31 ⟨W.heap.size, 0, none⟩).run Try.prog z = .ok (.agg ct) z from fun z hz => by obtain ⟨q, rfl⟩ := hz; rw [← HCT.out]; exact ((HB.out.later HQ.out).later q.below).kyLoad)
      have E := fun w : World => eqKey t x ht (HS.out.ok hx) w
      rw [HCT.out] at E
      have HX := Lib.hid hx
      have HK := Lib.hid hkn
      clear hx hk hkn ax
      generalize kyC x = cx at *
      cases hp : decide (t = x)
      · rw [hp] at E
        have HP := Lib.hid hp
        clear hp
        go_wp2_with fail
        refine wp_region_quietL (C := Grows wr) hmx (by kernel_rfl) (grows_refl wr) ?_
        repeat (first | (with_reducible refine wpQuiet_load rfl 31 _ rfl _ rfl _ LT.out ?_; simp only [Act.put, List.setIfInBounds_toArray, List.set_cons_succ, List.set_cons_zero]) | (with_reducible refine wpQuiet_load rfl 31 _ rfl _ rfl _ LX.out ?_; simp only [Act.put, List.setIfInBounds_toArray, List.set_cons_succ, List.set_cons_zero]) | (go_big_quiet_step (fail)))
        refine wpQuiet_nil ?_
        rintro _ ⟨z, rfl⟩
        have HE := Lib.hid (HQ.out.trans (z.below.mono HQ.out.size))
        clear LX LT E
        go_wp2_with fail
        go_roundw
        case rel =>
          refine ⟨k + 1, by have := HK.out; omega, by simp, fun j y hj hy => ?_, HE.out⟩
          by_cases hjk : j < k
          · exact HLT.out j y hjk hy
          · obtain rfl : j = k := by omega
            rw [HX.out] at hy
            injection hy with hy
            subst hy
            exact HP.out
        case measure => have := HK.out; simp [intOf]; omega
      · rw [hp] at E
        have HP := Lib.hid hp
        clear hp
        go_wp2_with fail
        refine wp_region_quietL (C := Grows wr) hmx (by kernel_rfl) (grows_refl wr) ?_
        repeat (first | (with_reducible refine wpQuiet_load rfl 31 _ rfl _ rfl _ LT.out ?_; simp only [Act.put, List.setIfInBounds_toArray, List.set_cons_succ, List.set_cons_zero]) | (with_reducible refine wpQuiet_load rfl 31 _ rfl _ rfl _ LX.out ?_; simp only [Act.put, List.setIfInBounds_toArray, List.set_cons_succ, List.set_cons_zero]) | (go_big_quiet_step (fail)))
        refine wpQuiet_nil ?_
        rintro _ ⟨z, rfl⟩
        have HE := Lib.hid (HQW.out.trans (z.below.mono HQW.out.size))
        clear LX LT E
        go_wp2_with fail
        exact hfin.out _ _ HE.out (idxK_hit HX.out HP.out HLT.out)
    · have hknI : ¬ (k : Int) < (n : Int) := by omega
      have hno := Lib.hid (show idxK (fun k => decide (t = k)) l = -1 from idxK_no (fun j y hy => HLT.out j y (by have := (List.getElem?_eq_some_iff.1 hy).1; have := HN.out; omega) hy))
      clear hk hkn
      go_wp2_with fail
      exact hfin.out _ _ HQW.out hno.out
set_option maxRecDepth 100000 in
set_option maxHeartbeats 4000000 in
theorem kcontains_any (W : World) (sv : Value) (l : List Ky) (t : Ky) (ht : KyOk t) (hs : KeysAt W sv l) :
    Calls Try.prog 36 #[sv, .agg (kyC t)] W fun e w' => e = .returned (.bool (l.any fun k => decide (t = k))) ∧ Below W.heap.size W w' := by
  have hB := Has.new W 31 (kyC t)
  have hq0 := (Below.refl W.heap.size W).alloc (Nat.le_refl _) (.cells (kyC t) 31)
  obtain ⟨V, hV⟩ : ∃ V, W.alloc (.cells (kyC t) 31) = V := ⟨_, rfl⟩
  rw [hV] at hB hq0
  have HVQ := Lib.hid hq0
  have LT := Lib.hid hB.kyLoad
  have HC := Lib.hid (kindex_any V sv l t ht (hs.later hq0))
  rw [← idxK_ge]
  obtain ⟨a, cap, rfl, _, _⟩ := hs.shape
  clear hs hB hq0
  generalize idxK (fun k => decide (t = k)) l = r at *
  generalize l.length = n at *
  generalize kyC t = ct at *
  go_enter Try.func36, Try.ntmps36
  go_wp2_with (first | (with_reducible refine wpList_load_known rfl _ (.tmp 3) rfl _ rfl _ LT.out ?_) | fail)
  refine HC.out.mono ?_
  rintro e w1 ⟨rfl, hb1⟩
  have HE := Lib.hid (HVQ.out.trans (hb1.mono HVQ.out.size))
  go_wp2_with fail
  go_ret
  exact ⟨rfl, HE.out⟩
end Go.Proofs.Ytbkgipggblphlaa
