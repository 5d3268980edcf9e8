import Derived.Test.YtadfkiebblmfkaaGreatDoorS14
import Derived.Laws.StructEq
import Derived.Laws.Cover2
/- Package state: slices.BinarySearchFunc over accounts. Conditions: the accounts lie in memory, their addresses rise. -/
namespace Go.Proofs.YtadfkiebblmfkaaGreatDoor
open Go Go.RowKit
attribute [local go_sem] Oper.semAt_some Grows wide_fn

theorem acmp_zero (a b : Nat) : acmp a b = 0 ↔ a = b := by
  unfold acmp
  split
  · constructor <;> intro h <;> omega
  · split
    · constructor <;> intro h <;> omega
    · constructor <;> intro h <;> omega
theorem Has.adLoad {W : World} {B n : Nat} (h : Has W B 25 (adC n)) : (loadVar 25 ⟨B, 0, none⟩).run Tryz.prog W = .ok (.agg (adC n)) W :=
  run_loadVar_row _ _ _ _ _ (0, 0) _ h Tryz.underlying25 rfl (by rw [adC_size]; exact infoAd)
def SeekP (l : List Ac) (t k : Nat) : Prop := k ≤ l.length ∧ (∀ j x, j < k → l[j]? = some x → x.at_ < t) ∧ (∀ j x, k ≤ j → l[j]? = some x → t ≤ x.at_)
theorem Ups.lt {l : List Ac} (h : Ups l) {i j : Nat} {x y : Ac} (hij : i < j) (hx : l[i]? = some x) (hy : l[j]? = some y) : x.at_ < y.at_ := by
  obtain ⟨h1, rfl⟩ := List.getElem?_eq_some_iff.1 hx
  obtain ⟨h2, rfl⟩ := List.getElem?_eq_some_iff.1 hy
  exact List.pairwise_iff_getElem.1 h i j h1 h2 hij
set_option maxRecDepth 100000 in
set_option maxHeartbeats 4000000 in
theorem search_any (W : World) (sv : Value) (l : List Ac) (hs : StAt W sv l) (hu : Ups l) (t : Nat) (ht : t < 256 ^ 20) (hl : l.length ≤ 100000) :
    Calls Tryz.prog 62 #[sv, .agg (adC t), .func (.func 56) #[] #[]] W fun e w' => ∃ k : Nat, SeekP l t k ∧ (∃ is : Bool, (is = true ↔ ∃ x, l[k]? = some x ∧ x.at_ = t) ∧ e = .returned (.tuple #[.int .i64 (k : Int), .bool is])) ∧ Below W.heap.size W w' := by
  have hmx : Tryz.prog.follows .mixedOrders = true := by kernel_rfl
  have hB := Has.new W 25 (adC t)
  have hq0 := (Below.refl W.heap.size W).alloc (Nat.le_refl _) (.cells (adC t) 25)
  obtain ⟨V, hV⟩ : ∃ V, W.alloc (.cells (adC t) 25) = V := ⟨_, rfl⟩
  rw [hV] at hB hq0
  have B := Lib.hid hB
  have Q0 := Lib.hid hq0
  have HT := Lib.hid ht
  have HU := Lib.hid hu
  obtain ⟨a, cap, rfl, hnc, hcm⟩ := hs.shape
  have HS := Lib.hid (hs.later hq0)
  obtain ⟨n, hn⟩ : ∃ n, l.length = n := ⟨_, rfl⟩
  rw [hn] at HS hl
  have HN := Lib.hid hn
  have HL := Lib.hid hl
  rw [hn]
  clear hs hnc hcm hn hl hB hq0 ht hu
  go_enter Tryz.func62, Tryz.ntmps62
  have HAD := Lib.hid (fun (X : World) (hX : Below V.heap.size V X) => (B.out.later hX).adLoad)
  have KO := Lib.hid (fun (X : World) (x : Ac) (sx : Value) (hx : AcOk x) => order_any X x sx hx t HT.out)
  generalize adC t = ct at *
  go_wp2_with fail
  go_loopw [9, 10] (fun i j wr => ∃ lo hi : Nat, i = .int .i64 (lo : Int) ∧ j = .int .i64 (hi : Int) ∧ lo ≤ hi ∧ hi ≤ n ∧ (∀ j x, j < lo → l[j]? = some x → x.at_ < t) ∧ (∀ j x, hi ≤ j → l[j]? = some x → t ≤ x.at_) ∧ Below V.heap.size V wr) (fun i j _ => (intOf j).toNat - (intOf i).toNat)
  case atStart => exact ⟨0, n, rfl, rfl, by omega, by omega, fun j x h => absurd h (by omega), fun j x h hx => absurd (List.getElem?_eq_some_iff.1 hx).1 (by have := HN.out; omega), Below.refl _ _⟩
  case round =>
    obtain ⟨lo, hi, rfl, rfl, hlh, hin, h1, h2, hv⟩ := hrel
    have H1 := Lib.hid h1
    have H2 := Lib.hid h2
    have HV := Lib.hid hv
    have HQ := Lib.hid hv
    clear h1 h2 hv
    have hhb : (hi : Int) ≤ 100000 := by have := HL.out; omega
    have hlb : (lo : Int) ≤ 100000 := by omega
    by_cases hlt : lo < hi
    · have hltI : (lo : Int) < (hi : Int) := by omega
      obtain ⟨m, hm⟩ : ∃ m, (lo + hi) / 2 = m := ⟨_, rfl⟩
      have hmI : ((lo : Int) + (hi : Int)) / 2 = (m : Int) := by omega
      have hmn : (m : Int) < (n : Int) := by omega
      have hmN : m < n := by omega
      have HM := Lib.hid (And.intro hm (And.intro hlt hin))
      obtain ⟨x, hx⟩ : ∃ x, l[m]? = some x := ⟨_, List.getElem?_eq_getElem (by have := HN.out; omega)⟩
      obtain ⟨b, sx, rfl, ax⟩ := (HS.out.later HQ.out).at hx
      have LX := Lib.hid (show ∀ z : World, Grows wr z → (loadVar 31 (b.add (m * 27))).run Tryz.prog z = .ok (.agg (acC x sx)) z from fun z hz => by obtain ⟨q, rfl⟩ := hz; exact (ax.later q.below).load)
      have LT := Lib.hid (show ∀ z : World, Grows wr z → (loadVar 25 ⟨W.heap.size, 0, none⟩).run Tryz.prog z = .ok (.agg ct) z from fun z hz => by obtain ⟨q, rfl⟩ := hz; exact HAD.out _ (HV.out.trans (q.below.mono HV.out.size)))
      have K3 := Lib.hid (fun z : Ext wr => Ext.at (KO.out z.w x sx (HS.out.ok hx)))
      have hcge := Lib.hid (acmp_ge x.at_ t)
      have hceq := Lib.hid (acmp_zero x.at_ t)
      generalize acmp x.at_ t = c at *
      generalize acC x sx = cx at *
      have HX := Lib.hid hx
      clear hx ax
      clear hm hlt hin hlh hmN
      by_cases hc0 : 0 ≤ c
      · have hcn : ¬ c < 0 := by omega
        go_wp2_with fail
        refine wp_region_quietL (C := Grows wr) hmx (by kernel_rfl) (grows_refl wr) ?_
        repeat (first | (with_reducible refine wpQuiet_load rfl 31 _ rfl _ rfl _ LX.out ?_; simp only [Act.put, List.setIfInBounds_toArray, List.set_cons_succ, List.set_cons_zero]) | (with_reducible refine wpQuiet_load rfl 25 _ rfl _ rfl _ LT.out ?_; simp only [Act.put, List.setIfInBounds_toArray, List.set_cons_succ, List.set_cons_zero]) | (go_big_quiet_step (first | (with_reducible exact K3.out _))))
        refine wpQuiet_nil ?_
        rintro _ ⟨z, rfl⟩
        have HE := Lib.hid (HQ.out.trans (z.below.mono HQ.out.size))
        clear LX LT K3
        go_wp2_with fail
        go_roundw
        case rel => exact ⟨lo, m, rfl, rfl, by have := HM.out; omega, by have := HM.out; omega, H1.out, fun j y hj hy => by
          have h0 := hcge.out.1 hc0
          rcases Nat.lt_or_ge m j with h | h
          · exact Nat.le_of_lt (Nat.lt_of_le_of_lt h0 (HU.out.lt h HX.out hy))
          · obtain rfl : j = m := by omega
            have e := hy.symm.trans HX.out
            injection e with e
            rw [e]
            exact h0, HE.out⟩
        case measure => have := HM.out; simp [intOf]; omega
      · have hcn : c < 0 := by omega
        have HC0 := Lib.hid hc0
        clear hc0
        go_wp2_with fail
        refine wp_region_quietL (C := Grows wr) hmx (by kernel_rfl) (grows_refl wr) ?_
        repeat (first | (with_reducible refine wpQuiet_load rfl 31 _ rfl _ rfl _ LX.out ?_; simp only [Act.put, List.setIfInBounds_toArray, List.set_cons_succ, List.set_cons_zero]) | (with_reducible refine wpQuiet_load rfl 25 _ rfl _ rfl _ LT.out ?_; simp only [Act.put, List.setIfInBounds_toArray, List.set_cons_succ, List.set_cons_zero]) | (go_big_quiet_step (first | (with_reducible exact K3.out _))))
        refine wpQuiet_nil ?_
        rintro _ ⟨z, rfl⟩
        have HE := Lib.hid (HQ.out.trans (z.below.mono HQ.out.size))
        clear LX LT K3
        go_wp2_with fail
        go_roundw
        case rel => exact ⟨m + 1, hi, by simp, rfl, by have := HM.out; omega, by have := HM.out; omega, fun j y hj hy => by
          have h0 : x.at_ < t := Nat.lt_of_not_le (fun h => by have h1 := hcge.out.2 h; have h2 := HC0.out; omega)
          rcases Nat.lt_or_ge j m with h | h
          · exact Nat.lt_trans (HU.out.lt h hy HX.out) h0
          · obtain rfl : j = m := by omega
            have e := hy.symm.trans HX.out
            injection e with e
            rw [e]
            exact h0, H2.out, HE.out⟩
        case measure => have := HM.out; simp [intOf]; omega
    · obtain rfl : lo = hi := by omega
      clear hlt
      have HSK := Lib.hid (show SeekP l t lo from ⟨by have := HN.out; omega, H1.out, H2.out⟩)
      have QW := Lib.hid (Q0.out.trans (HQ.out.mono Q0.out.size))
      by_cases hln : lo < n
      · have hlnI : (lo : Int) < (n : Int) := by omega
        obtain ⟨x, hx⟩ : ∃ x, l[lo]? = some x := ⟨_, List.getElem?_eq_getElem (by have := HN.out; omega)⟩
        obtain ⟨b, sx, rfl, ax⟩ := (HS.out.later HQ.out).at hx
        have LX := Lib.hid (show ∀ z : World, Grows wr z → (loadVar 31 (b.add (lo * 27))).run Tryz.prog z = .ok (.agg (acC x sx)) z from fun z hz => by obtain ⟨q, rfl⟩ := hz; exact (ax.later q.below).load)
        have LT := Lib.hid (show ∀ z : World, Grows wr z → (loadVar 25 ⟨W.heap.size, 0, none⟩).run Tryz.prog z = .ok (.agg ct) z from fun z hz => by obtain ⟨q, rfl⟩ := hz; exact HAD.out _ (HV.out.trans (q.below.mono HV.out.size)))
        have K3 := Lib.hid (fun z : Ext wr => Ext.at (KO.out z.w x sx (HS.out.ok hx)))
        have hcge := Lib.hid (acmp_ge x.at_ t)
        have hceq := Lib.hid (acmp_zero x.at_ t)
        generalize acmp x.at_ t = c at *
        generalize acC x sx = cx at *
        have HX := Lib.hid hx
        clear hx ax
        have HLI := Lib.hid hln
        clear hln hin
        by_cases hc0 : c = 0
        · have HIS := Lib.hid (show (true = true ↔ ∃ x, l[lo]? = some x ∧ x.at_ = t) from ⟨fun _ => ⟨x, HX.out, hceq.out.1 hc0⟩, fun _ => rfl⟩)
          clear hcge hceq
          subst hc0
          go_wp2_with fail
          refine wp_region_quietL (C := Grows wr) hmx (by kernel_rfl) (grows_refl wr) ?_
          repeat (first | (with_reducible refine wpQuiet_load rfl 31 _ rfl _ rfl _ LX.out ?_; simp only [Act.put, List.setIfInBounds_toArray, List.set_cons_succ, List.set_cons_zero]) | (with_reducible refine wpQuiet_load rfl 25 _ rfl _ rfl _ LT.out ?_; simp only [Act.put, List.setIfInBounds_toArray, List.set_cons_succ, List.set_cons_zero]) | (go_big_quiet_step (first | (with_reducible exact K3.out _))))
          refine wpQuiet_nil ?_
          rintro _ ⟨z, rfl⟩
          have HE := Lib.hid (QW.out.trans (z.below.mono QW.out.size))
          clear LX LT K3
          go_wp2_with fail
          go_ret2
          exact ⟨lo, HSK.out, ⟨true, by simpa using HIS.out, rfl⟩, HE.out⟩
        · have hc1 : (c == 0) = false := by simpa using hc0
          have hc2 : decide (c = 0) = false := by simpa using hc0
          have HIS := Lib.hid (show (false = true ↔ ∃ x, l[lo]? = some x ∧ x.at_ = t) from ⟨fun h => absurd h (by decide), fun ⟨y, hy, h⟩ => by
            have e := hy.symm.trans HX.out
            injection e with e
            subst e
            exact absurd (hceq.out.2 h) hc0⟩)
          clear hcge hceq
          go_wp2_with fail
          refine wp_region_quietL (C := Grows wr) hmx (by kernel_rfl) (grows_refl wr) ?_
          repeat (first | (with_reducible refine wpQuiet_load rfl 31 _ rfl _ rfl _ LX.out ?_; simp only [Act.put, List.setIfInBounds_toArray, List.set_cons_succ, List.set_cons_zero]) | (with_reducible refine wpQuiet_load rfl 25 _ rfl _ rfl _ LT.out ?_; simp only [Act.put, List.setIfInBounds_toArray, List.set_cons_succ, List.set_cons_zero]) | (go_big_quiet_step (first | (with_reducible exact K3.out _))))
          refine wpQuiet_nil ?_
          rintro _ ⟨z, rfl⟩
          have HE := Lib.hid (QW.out.trans (z.below.mono QW.out.size))
          clear LX LT K3
          go_wp2_with fail
          go_ret2
          exact ⟨lo, HSK.out, ⟨false, HIS.out, rfl⟩, HE.out⟩
      · have hlnI : ¬ (lo : Int) < (n : Int) := by omega
        have HIS := Lib.hid (show (false = true ↔ ∃ x, l[lo]? = some x ∧ x.at_ = t) from ⟨fun h => absurd h (by decide), fun ⟨y, hy, h⟩ => absurd (List.getElem?_eq_some_iff.1 hy).1 (by have := HN.out; omega)⟩)
        go_wp2_with fail
        refine wp_region_quietL (C := Grows wr) hmx (by kernel_rfl) (grows_refl wr) ?_
        repeat (go_big_quiet_step (fail))
        refine wpQuiet_nil ?_
        rintro _ ⟨z, rfl⟩
        have HE := Lib.hid (QW.out.trans (z.below.mono QW.out.size))
        go_wp2_with fail
        go_ret2
        exact ⟨lo, HSK.out, ⟨false, HIS.out, rfl⟩, HE.out⟩
end Go.Proofs.YtadfkiebblmfkaaGreatDoor

/- '==' of addresses. For all addresses. -/
namespace Go.Proofs.YtadfkiebblmfkaaGreatDoor
open Go Go.RowKit

def eqA (a b : Nat) : Bool := (List.range 20).all fun j => adB a j == adB b j
theorem eqA_iff {a b : Nat} (ha : a < 256 ^ 20) (hb : b < 256 ^ 20) : eqA a b = decide (a = b) := by
  rw [Bool.eq_iff_iff, decide_eq_true_eq]
  unfold eqA
  rw [List.all_eq_true]
  constructor
  · intro h
    have hl : lowB 20 a = lowB 20 b := by
      apply List.ext_getElem?
      intro j
      by_cases hj : j < 20
      · rw [lowB_at 20 a j hj, lowB_at 20 b j hj]
        have e := h j (List.mem_range.2 hj)
        have e' : adB a j = adB b j := by simpa using e
        unfold adB at e'
        rw [show 20 - 1 - j = 19 - j by omega, e']
      · rw [List.getElem?_eq_none (by rw [lowB_len]; omega), List.getElem?_eq_none (by rw [lowB_len]; omega)]
    have k1 := cmp_low 20 a b
    have k2 := cmp_low 20 b b
    rw [hl, k2] at k1
    rw [Nat.mod_eq_of_lt ha, Nat.mod_eq_of_lt hb] at k1
    rw [(acmp_zero b b).2 rfl] at k1
    exact (acmp_zero a b).1 k1.symm
  · rintro rfl j _
    exact beq_self_eq_true _
theorem adC_get (n i : Nat) (h : i < 20) : (adC n)[i]? = some (.int .u8 ((adB n i : Nat) : Int)) := by simp [adC, adL_at n i h]
theorem part20 (n : Nat) (i : Nat) (hi : i < 20) (w : World) : (part 5 (adC n) i).run Tryz.prog w = .ok (.int .u8 ((adB n i : Nat) : Int)) w := by
  have a3 := Tryz.isAgg5
  have hg := adC_get n i hi
  unfold part
  simp [go_sem, a3, hg]
theorem equal_u8 (d : Nat) (x y : Int) (w : World) : (Op.equalIn (d + 1) 5 (.int .u8 x) (.int .u8 y)).run Tryz.prog w = .ok (x == y) w := by
  rw [Op.equalIn]
  simp only [Sem.run_bind, run_underlying Tryz.underlying5, Result.andThen_ok]
  simp [go_sem]
theorem eq_loop20 (A B : Nat) (w : World) : ∀ l : List Nat, (∀ i, i ∈ l → i < 20) →
    (forIn (m := Sem) l ((none : Option Bool), ()) fun i _ => do
      let x ← part 5 (adC A) i
      let y ← part 5 (adC B) i
      let r ← Op.equalIn 9999 5 x y
      if (!r) = true then pure (ForInStep.done (some false, ())) else pure (ForInStep.yield (none, ()))).run Tryz.prog w = .ok (if l.all (fun j => adB A j == adB B j) = true then (none, ()) else (some false, ())) w
  | [], _ => by simp [go_sem]
  | i :: l, hl => by
    have hi := hl i (by simp)
    have ih := eq_loop20 A B w l (fun j hj => hl j (by simp [hj]))
    rw [List.forIn_cons]
    simp only [Sem.run_bind, part20 A i hi, part20 B i hi, equal_u8 9998, Result.andThen_ok]
    by_cases h : adB A i = adB B i
    · have hb : (((adB A i : Nat) : Int) == ((adB B i : Nat) : Int)) = true := by rw [h]; exact beq_self_eq_true _
      have hn : (adB A i == adB B i) = true := by rw [h]; exact beq_self_eq_true _
      simp only [hb, Bool.not_true, Bool.false_eq_true, if_false, Sem.run_pure, Result.andThen_ok, List.all_cons, hn, Bool.true_and]
      exact ih
    · have hb : (((adB A i : Nat) : Int) == ((adB B i : Nat) : Int)) = false := beq_eq_false_iff_ne.2 (by omega)
      have hn : (adB A i == adB B i) = false := beq_eq_false_iff_ne.2 h
      simp only [hb, Bool.not_false, if_true, Sem.run_pure, Result.andThen_ok, List.all_cons, hn, Bool.false_and, Bool.false_eq_true, if_false]
theorem eq20 (a b : Nat) (ha : a < 256 ^ 20) (hb : b < 256 ^ 20) (w : World) : (Op.equalIn 10000 25 (.agg (adC a)) (.agg (adC b))).run Tryz.prog w = .ok (decide (a = b)) w := by
  have z3 := Tryz.sizeOf5
  rw [← eqA_iff ha hb]
  rw [show (10000 : Nat) = 9999 + 1 from rfl, Op.equalIn]
  simp only [Sem.run_bind, run_underlying Tryz.underlying25, Result.andThen_ok, z3]
  simp only [Std.Legacy.Range.forIn_eq_forIn_range', Std.Legacy.Range.size, Nat.sub_zero, Nat.add_sub_cancel, Nat.div_one, Nat.mul_one]
  rw [eq_loop20 a b w (List.range' 0 20) (fun i hi => by rw [List.mem_range'_1] at hi; omega)]
  rw [show List.range' 0 20 = List.range 20 from rfl]
  show Result.andThen (.ok (if eqA a b = true then (none, ()) else (some false, ())) w) _ = _
  cases h : eqA a b <;> simp [go_sem]
end Go.Proofs.YtadfkiebblmfkaaGreatDoor

/- Rows of accounts. Conditions: none. -/
namespace Go.Proofs.YtadfkiebblmfkaaGreatDoor
open Go Go.RowKit

theorem choose_list {α β : Type} : ∀ (l : List α) (P : Nat → α → β → Prop), (∀ i x, l[i]? = some x → ∃ y, P i x y) → ∃ ps : List (α × β), ps.map (·.1) = l ∧ ∀ i p, ps[i]? = some p → P i p.1 p.2
  | [], P, _ => ⟨[], rfl, fun i p h => by simp at h⟩
  | x :: l, P, h => by
    obtain ⟨y, hy⟩ := h 0 x rfl
    obtain ⟨ps, e, hp⟩ := choose_list l (fun i => P (i + 1)) (fun i z hz => h (i + 1) z (by simpa using hz))
    refine ⟨(x, y) :: ps, by simp [e], fun i p hi => ?_⟩
    cases i with
    | zero => simp at hi; subst hi; exact hy
    | succ i => exact hp i p (by simpa using hi)
abbrev Pa := Ac × Value
def flatA (ps : List Pa) : List Value := ps.flatMap fun p => acL p.1 p.2
theorem flatA_len : ∀ (ps : List Pa), (flatA ps).length = ps.length * 27
  | [] => rfl
  | p :: ps => by
    have := flatA_len ps
    simp only [flatA, List.flatMap_cons, List.length_append, List.length_cons, acL_len] at this ⊢
    rw [this]
    omega
theorem flatA_append (ps qs : List Pa) : flatA (ps ++ qs) = flatA ps ++ flatA qs := by simp [flatA]
theorem flatA_at : ∀ (ps : List Pa) (i : Nat) (p : Pa) (j : Nat), ps[i]? = some p → j < 27 → (flatA ps)[i * 27 + j]? = (acL p.1 p.2)[j]?
  | [], i, p, j, h, _ => by simp at h
  | q :: ps, 0, p, j, h, hj => by
    simp at h
    subst h
    rw [show flatA (q :: ps) = acL q.1 q.2 ++ flatA ps from rfl, List.getElem?_append_left (by rw [acL_len]; omega), Nat.zero_mul, Nat.zero_add]
  | q :: ps, i + 1, p, j, h, hj => by
    rw [show flatA (q :: ps) = acL q.1 q.2 ++ flatA ps from rfl, List.getElem?_append_right (by rw [acL_len]; omega), acL_len, show (i + 1) * 27 + j - 27 = i * 27 + j by omega]
    exact flatA_at ps i p j (by simpa using h) hj
/-- Accounts in memory, with where their slots are. -/
def RowIn (W : World) (v : Value) (ps : List Pa) : Prop :=
  ∃ a cap, v = .slice a ps.length cap ∧ ps.length ≤ cap ∧ cap ≤ 9223372036854775807 ∧ ∀ (i : Nat) (p : Pa), ps[i]? = some p → ∃ b, a = some b ∧ ∀ (j : Nat) (u : Value), (acL p.1 p.2)[j]? = some u → W.cell? ((b.add (i * 27)).add j) = some u
theorem RowIn.later {W X : World} {v : Value} {ps : List Pa} (h : RowIn W v ps) (hb : Below W.heap.size W X) : RowIn X v ps := by
  obtain ⟨a, cap, h1, h2, h3, h5⟩ := h
  refine ⟨a, cap, h1, h2, h3, fun i x hx => ?_⟩
  obtain ⟨b, e, hc⟩ := h5 i x hx
  exact ⟨b, e, fun j u hj => cell_below hb _ _ (hc j u hj)⟩
theorem StAt.pairs {W : World} {v : Value} {l : List Ac} (h : StAt W v l) : ∃ ps : List Pa, ps.map (·.1) = l ∧ RowIn W v ps ∧ ∀ p ∈ ps, AcOk p.1 ∧ SlotsAt W p.2 p.1.slots := by
  obtain ⟨a, cap, h1, h2, h3, h4, h5⟩ := h
  obtain ⟨ps, e, hp⟩ := choose_list l (fun i x sv => ∃ b, a = some b ∧ SlotsAt W sv x.slots ∧ ∀ (j : Nat) (u : Value), (acL x sv)[j]? = some u → W.cell? ((b.add (i * 27)).add j) = some u) (fun i x hx => by
    obtain ⟨b, sv, e, hs, hc⟩ := h5 i x hx
    exact ⟨sv, b, e, hs, hc⟩)
  have hlen : ps.length = l.length := by rw [← e, List.length_map]
  refine ⟨ps, e, ⟨a, cap, by rw [hlen]; exact h1, by omega, h3, fun i p hi => ?_⟩, fun p hm => ?_⟩
  · obtain ⟨b, e, _, hc⟩ := hp i p hi
    exact ⟨b, e, hc⟩
  · obtain ⟨i, hi⟩ := List.getElem?_of_mem hm
    obtain ⟨b, _, hs, _⟩ := hp i p hi
    exact ⟨h4 p.1 (by rw [← e]; exact List.mem_map.2 ⟨p, hm, rfl⟩), hs⟩
theorem RowIn.st {W : World} {v : Value} {ps : List Pa} (h : RowIn W v ps) (hw : ∀ p ∈ ps, AcOk p.1 ∧ SlotsAt W p.2 p.1.slots) : StAt W v (ps.map (·.1)) := by
  obtain ⟨a, cap, h1, h2, h3, h5⟩ := h
  refine ⟨a, cap, by rw [List.length_map]; exact h1, by rw [List.length_map]; exact h2, h3, fun x hx => ?_, fun i x hx => ?_⟩
  · obtain ⟨p, hp, rfl⟩ := List.mem_map.1 hx
    exact (hw p hp).1
  · rw [List.getElem?_map] at hx
    obtain ⟨p, hp, rfl⟩ := Option.map_eq_some_iff.1 hx
    obtain ⟨b, e, hc⟩ := h5 i p hp
    exact ⟨b, p.2, e, (hw p (List.mem_of_getElem? hp)).2, hc⟩
/-- A row of accounts of the call's own. -/
def RowA (W : World) (base : Nat) (v : Value) (ps : List Pa) : Prop := W.ownsRow base 31 27 v ps.length (flatA ps)
theorem RowA.in {W : World} {base : Nat} {v : Value} {ps : List Pa} (h : RowA W base v ps) : RowIn W v ps := by
  rcases h.2 with ⟨rfl, h0⟩ | ⟨g, cap, cur, rfl, hbg, hg', hnc, hcm, hcs, htake⟩
  · have : ps = [] := List.eq_nil_of_length_eq_zero h0
    subst this
    exact ⟨none, 0, rfl, by simp, by omega, fun i p hp => by simp at hp⟩
  · refine ⟨some ⟨g, 0, none⟩, cap, rfl, hnc, by simpa [maxLen] using hcm, fun i p hp => ⟨⟨g, 0, none⟩, rfl, fun j u hj => ?_⟩⟩
    have hj27 : j < 27 := by
      have := (List.getElem?_eq_some_iff.1 hj).1
      rwa [acL_len] at this
    rw [Addr.add_add]
    exact World.ownsRow.cells h (g := g) rfl _ _ (by rw [flatA_at ps i p j hp hj27]; exact hj)
theorem RowA.keep {A X : World} {base : Nat} {v : Value} {ps : List Pa} (h : RowA A base v ps) (hk : ∀ b cs, base ≤ b → A.heap[b]? = some (.cells cs 31 (0, 0)) → X.heap[b]? = some (.cells cs 31 (0, 0))) : RowA X base v ps := by
  refine ⟨h.1, ?_⟩
  rcases h.2 with h' | ⟨g, cap, cur, e1, e2, e3, e4⟩
  · exact .inl h'
  · exact .inr ⟨g, cap, cur, e1, e2, hk g _ e2 e3, e4⟩
theorem RowA.later {A X : World} {base : Nat} {v : Value} {ps : List Pa} (h : RowA A base v ps) (hb : Below A.heap.size A X) : RowA X base v ps :=
  h.keep (fun b _ _ ho => (hb.block b (Array.getElem?_eq_some_iff.1 ho).1).trans ho)
theorem RowA.lower {W : World} {base low : Nat} {v : Value} {ps : List Pa} (h : RowA W base v ps) (hl : low ≤ base) : RowA W low v ps := by
  refine ⟨h.1, ?_⟩
  rcases h.2 with h' | ⟨g, cap, cur, e1, e2, e3, e4⟩
  · exact .inl h'
  · exact .inr ⟨g, cap, cur, e1, Nat.le_trans hl e2, e3, e4⟩
theorem RowA.nil (W : World) (base : Nat) : RowA W base (.slice none 0 0) [] := World.ownsRow_nil _ _ _ _
theorem RowA.shape {W : World} {base : Nat} {v : Value} {ps : List Pa} (h : RowA W base v ps) : ∃ a c, v = .slice a ps.length c := by
  rcases h.2 with ⟨rfl, h0⟩ | ⟨g, cap, cur, rfl, _⟩
  · exact ⟨none, 0, by rw [h0]⟩
  · exact ⟨_, _, rfl⟩
theorem RowA.block {W : World} {base : Nat} {v : Value} {ps : List Pa} (h : RowA W base v ps) {b : Nat} (hb : v.ownBlock = some b) : base ≤ b ∧ ∃ cs, W.heap[b]? = some (.cells cs 31 (0, 0)) := by
  rcases h.2 with ⟨rfl, h0⟩ | ⟨g, cap, cur, rfl, hbg, hg', _⟩
  · cases hb
  · injection hb with hb
    subst hb
    exact ⟨hbg, cur, hg'⟩
theorem infoA_of : ∃ i z, Tryz.prog.info? 31 = some i ∧ i.zero = some z ∧ z.cells.size = 27 ∧ i.size = 27 ∧ i.bytes = 104 := by
  have h : (Tryz.prog.info? 31).map (fun i => (i.zero.map (·.cells.size), i.size, i.bytes)) = some (some 27, 27, 104) := by kernel_rfl
  rcases hi : Tryz.prog.info? 31 with _ | i
  · rw [hi] at h; cases h
  · rw [hi] at h
    injection h with h
    simp only [Prod.mk.injEq] at h
    obtain ⟨h1, h2, h3⟩ := h
    obtain ⟨z, hz, hc⟩ := Option.map_eq_some_iff.1 h1
    exact ⟨i, z, rfl, hz, hc, h2, h3⟩
set_option maxRecDepth 100000 in
/-- Accounts behind a row of the call's own. -/
theorem append_acs (A : World) (base : Nat) (v : Value) (ps : List Pa) (h : RowA A base v ps) (hb : base ≤ A.heap.size) (sv : Value) (qs : List Pa) (hq : RowIn A sv qs) (h1 : ∀ p ∈ qs, p.2.oneCell' = true) (hl : ps.length + qs.length ≤ 100000) :
    ∃ v' w', (Builtin.append_ #[22, 22] 22 #[v, sv]).run Tryz.prog A = .ok v' w' ∧ RowA w' base v' (ps ++ qs) ∧ A.grownBy w' v.ownBlock ∧ Below base A w' := by
  obtain ⟨i, z, hi, hz, hzs, hsize, hby⟩ := infoA_of
  have bel : ∀ w', A.grownBy w' v.ownBlock → Below base A w' := fun w' hgr => ⟨hgr.os, hgr.tape, hgr.output, hgr.size, fun k hk => hgr.block k (by omega) (fun e => by have := (h.block e.symm).1; omega)⟩
  obtain ⟨a, cap, rfl, h2, h3, h5⟩ := hq
  cases qs with
  | nil =>
    obtain ⟨av, cv, rfl⟩ := h.shape
    have hr := run_append_nothing (P := Tryz.prog) A 22 22 22 31 i Tryz.underlying22 hi av ps.length cv (by
      rcases h.2 with ⟨e, h0⟩ | ⟨g, cap, cur, e, hbg, hg', hnc, _⟩
      · injection e with _ _ e; omega
      · injection e with _ _ e; subst e; exact hnc) (.slice a 0 cap) (by
      cases a with
      | none => exact Src.ofNil _ Tryz.underlying22 cap
      | some b => exact Src.ofSlice _ Tryz.underlying22 b 0 cap [] (by simp) (fun j u hj => by simp at hj) (fun u hu => by cases hu))
    refine ⟨_, _, hr, by rw [List.append_nil]; exact h, ⟨rfl, rfl, rfl, Nat.le_refl _, fun _ _ _ => rfl⟩, Below.refl _ _⟩
  | cons q r =>
    obtain ⟨b, rfl, _⟩ := h5 0 q rfl
    obtain ⟨v', w', hr, hown, hgr, hnb⟩ := run_append_src (P := Tryz.prog) A base 22 22 22 31 i z 27 104 Tryz.underlying22 hi hz hsize hby hzs (by decide) v ps.length (flatA ps) h (.slice (some b) (q :: r).length cap) (q :: r).length (by simp) (flatA (q :: r)) (by
      rw [hsize]
      refine Src.ofSlice _ Tryz.underlying22 b _ cap _ (flatA_len _) (fun j u hj => ?_) (fun u hu => ?_)
      · have hj8 : j < (q :: r).length * 27 := by
          have := (List.getElem?_eq_some_iff.1 hj).1
          rwa [flatA_len] at this
        obtain ⟨y, hy⟩ : ∃ y, (q :: r)[j / 27]? = some y := ⟨_, List.getElem?_eq_getElem (by omega)⟩
        obtain ⟨b', hb', hc⟩ := h5 (j / 27) y hy
        injection hb' with hb'
        subst hb'
        have hf := flatA_at (q :: r) (j / 27) y (j % 27) hy (by omega)
        rw [show j / 27 * 27 + j % 27 = j by omega, hj] at hf
        have h8 := hc (j % 27) u hf.symm
        rwa [Addr.add_add, show j / 27 * 27 + j % 27 = j by omega] at h8
      · obtain ⟨y, hy, hu'⟩ := List.mem_flatMap.1 hu
        exact acL_one y.1 y.2 (h1 y hy) u hu') (by omega) (by unfold maxLen; omega) hb
    refine ⟨v', w', hr, ?_, hgr, bel w' hgr⟩
    unfold RowA
    rw [flatA_append, List.length_append]
    exact hown
/-- A state with an account put in its place, or without any there. -/
noncomputable def putA (l : List Ac) (x : Ac) : List Ac := l.filter (fun y => decide (y.at_ < x.at_)) ++ (if emptyB x = true then [] else [x]) ++ l.filter (fun y => decide (x.at_ < y.at_))
theorem seek_take {l : List Ac} {t k : Nat} (h : SeekP l t k) : l.take k = l.filter (fun y => decide (y.at_ < t)) := by
  obtain ⟨hk, h1, h2⟩ := h
  have e := List.filter_append (p := fun y : Ac => decide (y.at_ < t)) (l.take k) (l.drop k)
  rw [List.take_append_drop] at e
  rw [e, List.filter_eq_self.2 (fun y hy => by
    obtain ⟨j, hj⟩ := List.getElem?_of_mem hy
    rw [List.getElem?_take] at hj
    split at hj
    · rename_i hjk
      exact decide_eq_true (h1 j y hjk hj)
    · cases hj), List.filter_eq_nil_iff.2 (fun y hy => by
    obtain ⟨j, hj⟩ := List.getElem?_of_mem hy
    rw [List.getElem?_drop] at hj
    have := h2 (k + j) y (by omega) hj
    simp
    omega), List.append_nil]
theorem seek_drop {l : List Ac} {t k : Nat} (h : SeekP l t k) (hu : Ups l) (d : Nat) (hd : (∃ x, l[k]? = some x ∧ x.at_ = t) ∧ d = 1 ∨ (¬ ∃ x, l[k]? = some x ∧ x.at_ = t) ∧ d = 0) : l.drop (k + d) = l.filter (fun y => decide (t < y.at_)) := by
  obtain ⟨hk, h1, h2⟩ := h
  have e := List.filter_append (p := fun y : Ac => decide (t < y.at_)) (l.take (k + d)) (l.drop (k + d))
  rw [List.take_append_drop] at e
  rw [e, List.filter_eq_nil_iff.2 (fun y hy => by
    obtain ⟨j, hj⟩ := List.getElem?_of_mem hy
    rw [List.getElem?_take] at hj
    split at hj
    · rename_i hjk
      rcases hd with ⟨⟨x, hx, hxt⟩, rfl⟩ | ⟨_, rfl⟩
      · rcases Nat.lt_or_ge j k with hlt | hge
        · have := h1 j y hlt hj
          simp
          omega
        · obtain rfl : j = k := by omega
          rw [hx] at hj
          injection hj with hj
          subst hj
          simp
          omega
      · have := h1 j y (by omega) hj
        simp
        omega
    · cases hj), List.nil_append, List.filter_eq_self.2 (fun y hy => by
    obtain ⟨j, hj⟩ := List.getElem?_of_mem hy
    rw [List.getElem?_drop] at hj
    refine decide_eq_true ?_
    rcases hd with ⟨⟨x, hx, hxt⟩, rfl⟩ | ⟨hno, rfl⟩
    · rw [← hxt]
      exact hu.lt (by omega) hx hj
    · rw [Nat.add_zero] at hj
      have := h2 (k + j) y (by omega) hj
      rcases Nat.eq_or_lt_of_le this with e | e
      · exfalso
        cases j with
        | zero => exact hno ⟨y, hj, e.symm⟩
        | succ j =>
          obtain ⟨z, hz⟩ : ∃ z, l[k]? = some z := ⟨_, List.getElem?_eq_getElem (by have := (List.getElem?_eq_some_iff.1 hj).1; omega)⟩
          have h3 := hu.lt (i := k) (j := k + (j + 1)) (by omega) hz hj
          have h4 := h2 k z (Nat.le_refl _) hz
          omega
      · exact e)]
theorem putA_seek {l : List Ac} {x : Ac} {k : Nat} (h : SeekP l x.at_ k) (hu : Ups l) (d : Nat) (hd : (∃ y, l[k]? = some y ∧ y.at_ = x.at_) ∧ d = 1 ∨ (¬ ∃ y, l[k]? = some y ∧ y.at_ = x.at_) ∧ d = 0) :
    putA l x = l.take k ++ (if emptyB x = true then [] else [x]) ++ l.drop (k + d) := by
  unfold putA
  rw [seek_take h, seek_drop h hu d hd]
end Go.Proofs.YtadfkiebblmfkaaGreatDoor
