/- Part. -/
import Derived.Test.YtahjgllnfbejmaaG03
import Derived.Shelf.SlSortCmp.WholeK
import Derived.Test.YtahjgllnfbejmaaProg
import Derived.Calls
import Derived.Deep.AppendSrc
import Derived.Laws.AppendOwn
import Derived.Test.YtahjgllnfbejmaaG01
set_option maxRecDepth 100000
set_option maxHeartbeats 16000000
namespace Go.Proofs.Ytahjgllnfbejmaa
section
open Go Go.RowKit
attribute [local go_sem] Oper.semAt_some Grows wide_fn
theorem eq4k (k : Nat) (a b c d a' b' c' d' : Int) (w : World) : (Op.equalIn (k + 2) 29 (.agg #[.int .u64 a, .int .u64 b, .int .u64 c, .int .u64 d]) (.agg #[.int .u64 a', .int .u64 b', .int .u64 c', .int .u64 d'])).run Try.prog w = .ok (a == a' && b == b' && c == c' && d == d') w := by
 have u3 := Try.underlying27
 have a3 := Try.isAgg27
 have z3 := Try.sizeOf27
 rw [Op.equalIn]
 simp only [Sem.run_bind, run_underlying Try.underlying29, Result.andThen_ok]
 simp only [Std.Legacy.Range.forIn_eq_forIn_range', Std.Legacy.Range.size, Nat.sub_zero, Nat.add_sub_cancel, Nat.div_one, List.range'_succ, List.range'_zero, List.forIn_cons, List.forIn_nil]
 go_simp
 by_cases h1 : a = a' <;> by_cases h2 : b = b' <;> by_cases h3 : c = c' <;> by_cases h4 : d = d' <;> simp [h1, h2, h3, h4]
theorem eq_loop20k (D A B : Nat) (w : World) : ∀ l : List Nat, (∀ i, i ∈ l → i < 20) →
  (forIn (m := Sem) l ((none : Option Bool), ()) fun i _ => do
   let x ← part 5 (adC A) i
   let y ← part 5 (adC B) i
   let r ← Op.equalIn (D + 1) 5 x y
   if (!r) = true then pure (ForInStep.done (some false, ())) else pure (ForInStep.yield (none, ()))).run Try.prog w = .ok (if l.all (fun j => adB A j == adB B j) = true then (none, ()) else (some false, ())) w
 | [], _ => by simp [go_sem]
 | i :: l, hl => by
  have hi := hl i (by simp)
  have ih := eq_loop20k D A B w l (fun j hj => hl j (by simp [hj]))
  rw [List.forIn_cons]
  simp only [Sem.run_bind, part20 A i hi, part20 B i hi, equal_u8 D, Result.andThen_ok]
  by_cases h : adB A i = adB B i
  ·have hb : (((adB A i : Nat) : Int) == ((adB B i : Nat) : Int)) = true := by rw [h]; exact beq_self_eq_true _
   have hn : (adB A i == adB B i) = true := by rw [h]; exact beq_self_eq_true _
   simp only [hb, Bool.not_true, Bool.false_eq_true, if_false, Sem.run_pure, Result.andThen_ok, List.all_cons, hn, Bool.true_and]
   exact ih
  ·have hb : (((adB A i : Nat) : Int) == ((adB B i : Nat) : Int)) = false := beq_eq_false_iff_ne.2 (by omega)
   have hn : (adB A i == adB B i) = false := beq_eq_false_iff_ne.2 h
   simp only [hb, Bool.not_false, if_true, Sem.run_pure, Result.andThen_ok, List.all_cons, hn, Bool.false_and, Bool.false_eq_true, if_false]
theorem eq20k (D : Nat) (a b : Nat) (ha : a < 256 ^ 20) (hb : b < 256 ^ 20) (w : World) : (Op.equalIn (D + 2) 26 (.agg (adC a)) (.agg (adC b))).run Try.prog w = .ok (decide (a = b)) w := by
 have z3 := Try.sizeOf5
 rw [← eqA_iff ha hb]
 rw [Op.equalIn]
 simp only [Sem.run_bind, run_underlying Try.underlying26, Result.andThen_ok, z3]
 simp only [Std.Legacy.Range.forIn_eq_forIn_range', Std.Legacy.Range.size, Nat.sub_zero, Nat.add_sub_cancel, Nat.div_one, Nat.mul_one]
 rw [eq_loop20k D a b w (List.range' 0 20) (fun i hi => by rw [List.mem_range'_1] at hi; omega)]
 rw [show List.range' 0 20 = List.range 20 from rfl]
 show Result.andThen (.ok (if eqA a b = true then (none, ()) else (some false, ())) w) _ = _
 cases h : eqA a b <;> simp [go_sem]
theorem equal_bool (d : Nat) (x y : Bool) (w : World) : (Op.equalIn (d + 1) 4 (.bool x) (.bool y)).run Try.prog w = .ok (x == y) w := by
 rw [Op.equalIn]
 simp only [Sem.run_bind, run_underlying Try.underlying4, Result.andThen_ok]
 simp [go_sem]
theorem kyPart0 (x : Ky) : (kyC x).extract 0 20 = adC x.at_ := by
 unfold kyC kyL adC
 simp [adL_len, List.extract_eq_take_drop]
theorem kyPart2 (x : Ky) : (kyC x).extract 21 25 = #[.int .u64 (lim x.key 0), .int .u64 (lim x.key 1), .int .u64 (lim x.key 2), .int .u64 (lim x.key 3)] := by
 unfold kyC kyL
 have h : List.drop 21 (adL x.at_) = [] := List.drop_eq_nil_of_le (by rw [adL_len]; omega)
 simp [adL_len, List.extract_eq_take_drop, List.drop_append, h]
theorem eqKey (x y : Ky) (hx : KyOk x) (hy : KyOk y) (w : World) : (Op.equalIn 10000 31 (.agg (kyC x)) (.agg (kyC y))).run Try.prog w = .ok (decide (x = y)) w := by
 rw [show (10000 : Nat) = 9999 + 1 from rfl, run_equalIn_struct (P := Try.prog) w 9999 31 _ _ (by kernel_rfl) (by kernel_rfl)]
 have hf : (Try.prog.fieldsOf 31).toList.map (fun f => (f.name, f.type, f.offset)) = [("At", 26, 0), ("Slot", 4, 20), ("Key", 29, 21)] := by kernel_rfl
 generalize (Try.prog.fieldsOf 31).toList = l at hf
 rcases l with _ | ⟨p, _ | ⟨q, _ | ⟨r, _ | ⟨z, l⟩⟩⟩⟩
 ·cases hf
 ·simp at hf
 ·simp at hf
 ·simp only [List.map_cons, List.map_nil, List.cons.injEq, Prod.mk.injEq, and_true] at hf
  obtain ⟨⟨h1, h2, h3⟩, ⟨h4, h5, h6⟩, h7, h8, h9⟩ := hf
  have e1 := eq20k 9997 x.at_ y.at_ hx.at_ hy.at_ w
  have e2 := equal_bool 9998 x.slot y.slot w
  have e3 := eq4k 9997 (lim x.key 0) (lim x.key 1) (lim x.key 2) (lim x.key 3) (lim y.key 0) (lim y.key 1) (lim y.key 2) (lim y.key 3) w
  rw [eqv_k x.key y.key hx.key hy.key] at e3
  simp only [Nat.reduceAdd] at e1 e2 e3
  have p1 := kyPart0 x
  have p2 : (kyC x)[20]? = some (.bool x.slot) := kyC_more x 0
  have p3 := kyPart2 x
  have r1 := kyPart0 y
  have r2 : (kyC y)[20]? = some (.bool y.slot) := kyC_more y 0
  have r3 := kyPart2 y
  have hxy : decide (x = y) = (decide (x.at_ = y.at_) && (x.slot == y.slot) && decide (x.key = y.key)) := by
   obtain ⟨x1, x2, x3⟩ := x
   obtain ⟨y1, y2, y3⟩ := y
   simp only [Ky.mk.injEq, Bool.decide_and]
   cases x2 <;> cases y2 <;> simp
  rw [hxy]
  generalize kyC x = cx at *
  generalize kyC y = cy at *
  generalize decide (x.at_ = y.at_) = b1 at *
  generalize hb2 : (x.slot == y.slot) = b2 at e2 ⊢
  generalize decide (x.key = y.key) = b3 at *
  have a26 := Try.isAgg26
  have z26 := Try.sizeOf26
  have a29 := Try.isAgg29
  have z29 := Try.sizeOf29
  have a4 := Try.isAgg4
  unfold Op.eqFields Op.eqFields Op.eqFields Op.eqFields
  simp [h1, h2, h3, h4, h5, h6, h7, h8, h9, part, go_sem, a26, z26, a29, z29, a4, p1, p2, p3, r1, r2, r3, e1, e3]
  clear h1 h2 h3 h4 h5 h6 h7 h8 h9 p1 p2 p3 r1 r2 r3 e1 e2 e3 hxy
  cases b1 <;> cases b2 <;> cases b3 <;> simp_all
 ·simp at hf
theorem kindex_any (W : World) (sv : Value) (l : List Ky) (t : Ky) (ht : KyOk t) (hs : KeysAt W sv l) :
  Calls Try.prog 54 #[sv, .agg (kyC t)] W fun e w' => e = .returned (.int .i64 (idxK (fun k => decide (t = k)) l)) ∧ Below W.heap.size W w' := by
 have hmx : Try.prog.follows .mixedOrders = true := by kernel_rfl
 have hB := Has.new W 31 (kyC t)
 have hq0 := newA W (.cells (kyC t) 31)
 obtain ⟨V, hV⟩ : ∃ V, W.alloc (.cells (kyC t) 31) = V := ⟨_, rfl⟩
 rw [hV] at hB hq0
 have HB := hid hB
 have HVQ := hid hq0
 clear hB hq0
 obtain ⟨an, capn, rfl, hnc, hcm⟩ := hs.shape
 have HS := hid hs
 obtain ⟨n, hn⟩ : ∃ n, l.length = n := ⟨_, rfl⟩
 rw [hn] at HS hnc ⊢
 have HN := hid hn
 have hlc := hid (Nat.le_trans hnc hcm)
 clear hs hnc hcm hn
 have hfin := hid (show ∀ X v, Below W.heap.size W X → idxK (fun k => decide (t = k)) l = v → (Ending.returned (.int .i64 v) = .returned (.int .i64 (idxK (fun k => decide (t = k)) l)) ∧ Below W.heap.size W X) from fun X v hX h => ⟨by rw [h], hX⟩)
 obtain ⟨Post, hPost⟩ : ∃ Post : Ending → World → Prop, (fun (e : Ending) (w' : World) => e = .returned (.int .i64 (idxK (fun k => decide (t = k)) l)) ∧ Below W.heap.size W w') = Post := ⟨_, rfl⟩
 replace hfin := hid (show ∀ X v, Below W.heap.size W X → idxK (fun k => decide (t = k)) l = v → Post (.returned (.int .i64 v)) X by rw [← hPost]; exact hfin.out)
 rw [hPost]
 clear hPost
 obtain ⟨ct, hct⟩ : ∃ ct, kyC t = ct := ⟨_, rfl⟩
 have HCT := hid hct
 rw [hct] at hV ⊢
 clear hct
 go_enter Try.func54, Try.ntmps54
 go_wp2_with fail
 go_loopw [8] (fun i wr => ∃ k : Nat, k ≤ n ∧ i = .int .i64 (k : Int) ∧ (∀ (j : Nat) (y : Ky), j < k → l[j]? = some y → decide (t = y) = false) ∧ Below V.heap.size V wr) (fun i _ => n - (intOf i).toNat)
 case atStart => exact ⟨0, Nat.zero_le _, rfl, fun j x h => absurd h (by omega), Below.refl _ _⟩
 case round =>
  obtain ⟨k, hk, rfl, hlt, hq⟩ := hrel
  have HLT := hid hlt
  have HQ := hid hq
  clear hlt hq
  have HQW := hid (HVQ.out.trans (HQ.out.mono HVQ.out.size))
  by_cases hkn : k < n
  ·have hknI : (k : Int) < (n : Int) := by omega
   have hk0 : (0 : Int) ≤ (k : Int) := by omega
   have hkb : (k : Int) ≤ 9223372036854775806 := by have := hlc.out; omega
   obtain ⟨x, hx⟩ : ∃ x, l[k]? = some x := ⟨_, List.getElem?_eq_getElem (by have := HN.out; omega)⟩
   obtain ⟨b, rfl, ax⟩ := (HS.out.later HQW.out).at hx
   have LX := hid (show ∀ z : World, Grows wr z → (loadVar 31 (b.add (k * 25))).run Try.prog z = .ok (.agg (kyC x)) z from fun z hz => by obtain ⟨q, rfl⟩ := hz; exact (ax.later q.below).load)
   have LT := hid (show ∀ z : World, Grows wr z → (loadVar 31 ⟨W.heap.size, 0, none⟩).run Try.prog z = .ok (.agg ct) z from fun z hz => by obtain ⟨q, rfl⟩ := hz; rw [← HCT.out]; exact ((HB.out.later HQ.out).later q.below).kyLoad)
   have E := fun w : World => eqKey t x ht (HS.out.ok hx) w
   rw [HCT.out] at E
   have HX := hid hx
   have HK := hid hkn
   clear hx hk hkn ax
   generalize kyC x = cx at *
   cases hp : decide (t = x)
   ·rw [hp] at E
    have HP := hid hp
    clear hp
    go_wp2_with fail
    refine wp_region_quietL (C := Grows wr) hmx (by kernel_rfl) (grows_refl wr) ?_
    repeat (first | (with_reducible refine wpQuiet_load rfl 31 _ rfl _ rfl _ LT.out ?_; simp only [Act.put, sT, sS, sZ]) | (with_reducible refine wpQuiet_load rfl 31 _ rfl _ rfl _ LX.out ?_; simp only [Act.put, sT, sS, sZ]) | (go_big_quiet_step (fail)))
    refine wpQuiet_nil ?_
    rintro _ ⟨z, rfl⟩
    have HE := hid (HQ.out.trans (z.below.mono HQ.out.size))
    clear LX LT E
    go_wp2_with fail
    go_roundw
    case rel =>
     refine ⟨k + 1, by have := HK.out; omega, by simp, fun j y hj hy => ?_, HE.out⟩
     by_cases hjk : j < k
     ·exact HLT.out j y hjk hy
     ·obtain rfl : j = k := by omega
      rw [HX.out] at hy
      injection hy with hy
      subst hy
      exact HP.out
    case measure => have := HK.out; simp [intOf]; omega
   ·rw [hp] at E
    have HP := hid hp
    clear hp
    go_wp2_with fail
    refine wp_region_quietL (C := Grows wr) hmx (by kernel_rfl) (grows_refl wr) ?_
    repeat (first | (with_reducible refine wpQuiet_load rfl 31 _ rfl _ rfl _ LT.out ?_; simp only [Act.put, sT, sS, sZ]) | (with_reducible refine wpQuiet_load rfl 31 _ rfl _ rfl _ LX.out ?_; simp only [Act.put, sT, sS, sZ]) | (go_big_quiet_step (fail)))
    refine wpQuiet_nil ?_
    rintro _ ⟨z, rfl⟩
    have HE := hid (HQW.out.trans (z.below.mono HQW.out.size))
    clear LX LT E
    go_wp2_with fail
    exact hfin.out _ _ HE.out (idxK_hit HX.out HP.out HLT.out)
  ·have hknI : ¬ (k : Int) < (n : Int) := by omega
   have hno := hid (show idxK (fun k => decide (t = k)) l = -1 from idxK_no (fun j y hy => HLT.out j y (by have := (List.getElem?_eq_some_iff.1 hy).1; have := HN.out; omega) hy))
   clear hk hkn
   go_wp2_with fail
   exact hfin.out _ _ HQW.out hno.out
theorem kcontains_any (W : World) (sv : Value) (l : List Ky) (t : Ky) (ht : KyOk t) (hs : KeysAt W sv l) :
  Calls Try.prog 35 #[sv, .agg (kyC t)] W fun e w' => e = .returned (.bool (l.any fun k => decide (t = k))) ∧ Below W.heap.size W w' := by
 have hB := Has.new W 31 (kyC t)
 have hq0 := newA W (.cells (kyC t) 31)
 obtain ⟨V, hV⟩ : ∃ V, W.alloc (.cells (kyC t) 31) = V := ⟨_, rfl⟩
 rw [hV] at hB hq0
 have HVQ := hid hq0
 have LT := hid hB.kyLoad
 have HC := hid (kindex_any V sv l t ht (hs.later hq0))
 rw [← idxK_ge]
 obtain ⟨a, cap, rfl, _, _⟩ := hs.shape
 clear hs hB hq0
 generalize idxK (fun k => decide (t = k)) l = r at *
 generalize l.length = n at *
 generalize kyC t = ct at *
 go_enter Try.func35, Try.ntmps35
 go_wp2_with (first | (with_reducible refine wpList_load_known rfl _ (.tmp 3) rfl _ rfl _ LT.out ?_) | fail)
 refine HC.out.mono ?_
 rintro e w1 ⟨rfl, hb1⟩
 have HE := hid (HVQ.out.trans (hb1.mono HVQ.out.size))
 go_wp2_with fail
 go_ret
 exact ⟨rfl, HE.out⟩
theorem below_rowK {B g : Nat} {w0 w : World} (hb : Below B w0 w) (hBg : B ≤ g) (cs : Array Value) : Below B w0 (w.setRow g cs) :=
 hb.trans ⟨rfl, rfl, rfl, by simp [World.setRow], fun k hk => setRow_other w g k cs (by omega)⟩
theorem kyC_one (k : Ky) : (kyC k).all (·.oneCell') = true := by
 rw [Array.all_eq_true_iff_forall_mem]
 intro u hu
 exact kyL_one k u (by simpa [kyC] using hu)
noncomputable def fitB (l : List Ky) : Bool := decide (l.length ≤ 200) && kupB l && !l.any strayK
theorem fitB_no {l : List Ky} {k : Nat} {x : Ky} (hx : l[k]? = some x) (hp : strayK x = true) : fitB l = false := by
 unfold fitB
 rw [List.any_eq_true.2 ⟨x, List.mem_of_getElem? hx, hp⟩]
 simp
theorem fitB_yes {l : List Ky} (h1 : l.length ≤ 200) (h2 : kupB l = true) (h : ∀ (j : Nat) (y : Ky), l[j]? = some y → strayK y = false) : fitB l = true := by
 have : l.any strayK = false := by
  refine Bool.eq_false_iff.2 fun ha => ?_
  obtain ⟨x, hx, hp⟩ := List.any_eq_true.1 ha
  obtain ⟨j, hj⟩ := List.mem_iff_getElem?.1 hx
  rw [h j x hj] at hp
  cases hp
 unfold fitB
 rw [this, h2, decide_eq_true h1]
 rfl
theorem kfit_any (W : World) (sv : Value) (l : List Ky) (hs : KeysAt W sv l) :
  Calls Try.prog 33 #[sv] W fun e w' => e = .returned (.bool (fitB l)) ∧ Below W.heap.size W w' := by
 have HLo := hid (long_any W sv l hs)
 obtain ⟨a, cap, rfl, hnc, hcm⟩ := hs.shape
 have HS := hid hs
 obtain ⟨n, hn⟩ : ∃ n, l.length = n := ⟨_, rfl⟩
 rw [hn] at HS hnc ⊢
 have HN := hid hn
 have hlc := hid (Nat.le_trans hnc hcm)
 clear hs hnc hcm hn
 rw [HN.out] at HLo
 have hfin := hid (show ∀ X v, Below W.heap.size W X → fitB l = v → (Ending.returned (.bool v) = .returned (.bool (fitB l)) ∧ Below W.heap.size W X) from fun X v hX h => ⟨by rw [h], hX⟩)
 obtain ⟨Post, hPost⟩ : ∃ Post : Ending → World → Prop, (fun (e : Ending) (w' : World) => e = .returned (.bool (fitB l)) ∧ Below W.heap.size W w') = Post := ⟨_, rfl⟩
 replace hfin := hid (show ∀ X v, Below W.heap.size W X → fitB l = v → Post (.returned (.bool v)) X by rw [← hPost]; exact hfin.out)
 rw [hPost]
 clear hPost
 by_cases h2 : 200 < n
 ·rw [decide_eq_true h2] at HLo
  have hno := hid (show fitB l = false by unfold fitB; rw [HN.out, decide_eq_false (by omega)]; rfl)
  clear h2
  go_enter Try.func33, Try.ntmps33
  go_wp2_with (go_at_call 29; refine HLo.out.mono ?_; rintro e w1 ⟨rfl, hb1⟩)
  exact hfin.out _ _ hb1 hno.out
 ·rw [decide_eq_false h2] at HLo
  have H2 := hid h2
  clear h2
  cases hu : kupB l
  ·have hno := hid (show fitB l = false by unfold fitB; rw [hu]; simp)
   have HR := hid (fun (X : World) (hX : Below W.heap.size W X) => krises_any X _ l (HS.out.later hX))
   rw [hu] at HR
   clear hu
   go_enter Try.func33, Try.ntmps33
   go_wp2_with (first | (go_at_call 29; refine HLo.out.mono ?_; rintro e w1 ⟨rfl, hb1⟩) | (go_at_call 53; refine (HR.out _ hb1).mono ?_; rintro e w2 ⟨rfl, hb2⟩))
   exact hfin.out _ _ (hb1.trans (hb2.mono hb1.size)) hno.out
  ·have HU := hid hu
   have HR := hid (fun (X : World) (hX : Below W.heap.size W X) => krises_any X _ l (HS.out.later hX))
   rw [hu] at HR
   clear hu
   go_enter Try.func33, Try.ntmps33
   go_wp2_with (first | (go_at_call 29; refine HLo.out.mono ?_; rintro e w1 ⟨rfl, hb1⟩) | (go_at_call 53; refine (HR.out _ hb1).mono ?_; rintro e w2 ⟨rfl, hb2⟩))
   have HB2 := hid (hb1.trans (hb2.mono hb1.size))
   clear hb1 hb2
   go_loopw [14] (fun i wr => ∃ k : Nat, k ≤ n ∧ i = .int .i64 (k : Int) ∧ (∀ (j : Nat) (y : Ky), j < k → l[j]? = some y → strayK y = false) ∧ Below W.heap.size W wr) (fun i _ => n - (intOf i).toNat)
   case atStart => exact ⟨0, Nat.zero_le _, rfl, fun j x h => absurd h (by omega), HB2.out⟩
   case round =>
    obtain ⟨k, hk, rfl, hlt, hq⟩ := hrel
    have HLT := hid hlt
    have HQ := hid hq
    clear hlt hq
    by_cases hkn : k < n
    ·have hknI : (k : Int) < (n : Int) := by omega
     have hk0 : (0 : Int) ≤ (k : Int) := by omega
     have hkb : (k : Int) ≤ 9223372036854775806 := by have := hlc.out; omega
     obtain ⟨x, hx⟩ : ∃ x, l[k]? = some x := ⟨_, List.getElem?_eq_getElem (by have := HN.out; omega)⟩
     have hq1 := (HQ.out.alloc HQ.out.size (.cells #[.int .u8 0, .int .u8 0, .int .u8 0, .int .u8 0, .int .u8 0, .int .u8 0, .int .u8 0, .int .u8 0, .int .u8 0, .int .u8 0, .int .u8 0, .int .u8 0, .int .u8 0, .int .u8 0, .int .u8 0, .int .u8 0, .int .u8 0, .int .u8 0, .int .u8 0, .int .u8 0, .bool false, .int .u64 0, .int .u64 0, .int .u64 0, .int .u64 0] 31))
     obtain ⟨b, rfl, ax⟩ := (HS.out.later hq1).at hx
     obtain ⟨b', eb, ax0⟩ := (HS.out.later HQ.out).at hx
     injection eb with eb
     subst eb
     have LX := hid ax0.load
     have h0 := Has.new wr 31 #[.int .u8 0, .int .u8 0, .int .u8 0, .int .u8 0, .int .u8 0, .int .u8 0, .int .u8 0, .int .u8 0, .int .u8 0, .int .u8 0, .int .u8 0, .int .u8 0, .int .u8 0, .int .u8 0, .int .u8 0, .int .u8 0, .int .u8 0, .int .u8 0, .int .u8 0, .int .u8 0, .bool false, .int .u64 0, .int .u64 0, .int .u64 0, .int .u64 0]
     have h1 : Has ((wr.alloc (.cells #[.int .u8 0, .int .u8 0, .int .u8 0, .int .u8 0, .int .u8 0, .int .u8 0, .int .u8 0, .int .u8 0, .int .u8 0, .int .u8 0, .int .u8 0, .int .u8 0, .int .u8 0, .int .u8 0, .int .u8 0, .int .u8 0, .int .u8 0, .int .u8 0, .int .u8 0, .int .u8 0, .bool false, .int .u64 0, .int .u64 0, .int .u64 0, .int .u64 0] 31)).setRow wr.heap.size (kyC x)) wr.heap.size 31 (kyC x) := setRow_heap _ _ _ _ _ _ h0
     have HQ1 := hid (below_rowK hq1 (g := wr.heap.size) HQ.out.size (kyC x))
     have hi : (Try.prog.info? 31).map (·.size) = some (kyC x).size := by rw [kyC_size]; exact infoKy
     have ho := kyC_one x
     have hz : (#[.int .u8 0, .int .u8 0, .int .u8 0, .int .u8 0, .int .u8 0, .int .u8 0, .int .u8 0, .int .u8 0, .int .u8 0, .int .u8 0, .int .u8 0, .int .u8 0, .int .u8 0, .int .u8 0, .int .u8 0, .int .u8 0, .int .u8 0, .int .u8 0, .int .u8 0, .int .u8 0, .bool false, .int .u64 0, .int .u64 0, .int .u64 0, .int .u64 0] : Array Value).size = (kyC x).size := by rw [kyC_size]; rfl
     obtain ⟨V1, hV1⟩ : ∃ V1, (wr.alloc (.cells #[.int .u8 0, .int .u8 0, .int .u8 0, .int .u8 0, .int .u8 0, .int .u8 0, .int .u8 0, .int .u8 0, .int .u8 0, .int .u8 0, .int .u8 0, .int .u8 0, .int .u8 0, .int .u8 0, .int .u8 0, .int .u8 0, .int .u8 0, .int .u8 0, .int .u8 0, .int .u8 0, .bool false, .int .u64 0, .int .u64 0, .int .u64 0, .int .u64 0] 31)).setRow wr.heap.size (kyC x) = V1 := ⟨_, rfl⟩
     rw [hV1] at h1 HQ1
     have L1 := hid h1.kyLoad
     have K3 := hid (stray_anyK V1 x (HS.out.ok hx))
     have HX := hid hx
     have HK := hid hkn
     clear hx hk hkn ax ax0 hq1 h1
     generalize kyC x = cx at *
     cases hp : strayK x
     ·rw [hp] at K3
      have HP := hid hp
      clear hp
      go_wp2_with (first | (with_reducible refine wpList_load_known rfl _ (.tmp 16) rfl _ rfl _ LX.out ?_) | (refine wpList_store_row rfl _ (.tmp 4) (.tmp 17) rfl _ _ rfl rfl _ _ h0 hi hz ho ?_; rw [hV1]) | (with_reducible refine wpList_load_known rfl _ (.tmp 4) rfl _ rfl _ L1.out ?_) | (go_at_call 27; refine K3.out.mono ?_; rintro e w1 ⟨rfl, hb1⟩))
      have HE := hid (HQ1.out.trans (hb1.mono HQ1.out.size))
      clear h0 hV1
      go_wp2_with fail
      go_roundw
      case rel =>
       refine ⟨k + 1, by have := HK.out; omega, by simp, fun j y hj hy => ?_, HE.out⟩
       by_cases hjk : j < k
       ·exact HLT.out j y hjk hy
       ·obtain rfl : j = k := by omega
        rw [HX.out] at hy
        injection hy with hy
        subst hy
        exact HP.out
      case measure => have := HK.out; simp [intOf]; omega
     ·rw [hp] at K3
      have HP := hid hp
      clear hp
      go_wp2_with (first | (with_reducible refine wpList_load_known rfl _ (.tmp 16) rfl _ rfl _ LX.out ?_) | (refine wpList_store_row rfl _ (.tmp 4) (.tmp 17) rfl _ _ rfl rfl _ _ h0 hi hz ho ?_; rw [hV1]) | (with_reducible refine wpList_load_known rfl _ (.tmp 4) rfl _ rfl _ L1.out ?_) | (go_at_call 27; refine K3.out.mono ?_; rintro e w1 ⟨rfl, hb1⟩))
      have HE := hid (HQ1.out.trans (hb1.mono HQ1.out.size))
      clear h0 hV1
      go_wp2_with fail
      exact hfin.out _ _ HE.out (fitB_no HX.out HP.out)
    ·have hknI : ¬ (k : Int) < (n : Int) := by omega
     have hyes := hid (show fitB l = true from fitB_yes (by have := H2.out; have := HN.out; omega) HU.out (fun j y hy => HLT.out j y (by have := (List.getElem?_eq_some_iff.1 hy).1; have := HN.out; omega) hy))
     clear hk hkn
     go_wp2_with fail
     exact hfin.out _ _ HQ.out hyes.out
structure SetsAt (W : World) (v : Value) (r s : List Ky) : Prop where
 ex : ∃ rv sv, v = .agg #[rv, sv] ∧ KeysAt W rv r ∧ KeysAt W sv s
theorem SetsAt.later {W X : World} {v : Value} {r s : List Ky} (h : SetsAt W v r s) (hb : Below W.heap.size W X) : SetsAt X v r s := by
 obtain ⟨rv, sv, e, h1, h2⟩ := h.ex
 exact ⟨rv, sv, e, h1.later hb, h2.later hb⟩
theorem kright_any (W : World) (v : Value) (r s : List Ky) (hs : SetsAt W v r s) :
  Calls Try.prog 14 #[v] W fun e w' => e = .returned (.bool (fitB r && fitB s)) ∧ Below W.heap.size W w' := by
 obtain ⟨rv, sv, rfl, hr, ht⟩ := hs.ex
 obtain ⟨a, ca, rfl, _, _⟩ := hr.shape
 obtain ⟨b, cb, rfl, _, _⟩ := ht.shape
 obtain ⟨V, hV, hB, hq0⟩ := newBox W 24 #[.slice a r.length ca, .slice b s.length cb]
 have Q := hid hq0
 have c0 := hB.cell 0 _ rfl
 have HC := hid (kfit_any V _ r (hr.later hq0))
 have HD := hid (fun (X : World) (hX : Below V.heap.size V X) => kfit_any X _ s (ht.later (hq0.trans (hX.mono hq0.size))))
 have HB := hid hB
 clear hr ht hs hq0 hB
 generalize fitB r = x at *
 generalize fitB s = y at *
 generalize r.length = n at *
 generalize s.length = m at *
 cases x
 ·go_enter Try.func14, Try.ntmps14
  go_wp2_with fail
  refine HC.out.mono ?_
  rintro e w1 ⟨rfl, hb1⟩
  have HE := hid (Q.out.trans (hb1.mono Q.out.size))
  go_wp2_with fail
  go_ret
  exact ⟨rfl, HE.out⟩
 ·go_enter Try.func14, Try.ntmps14
  go_wp2_with fail
  refine HC.out.mono ?_
  rintro e w1 ⟨rfl, hb1⟩
  have HE := hid (Q.out.trans (hb1.mono Q.out.size))
  have c1 := (HB.out.later hb1).cell 1 _ rfl
  go_wp2_with fail
  refine (HD.out _ hb1).mono ?_
  rintro e w2 ⟨rfl, hb2⟩
  have HF := hid (HE.out.trans (hb2.mono HE.out.size))
  go_wp2_with fail
  go_ret
  exact ⟨rfl, HF.out⟩
theorem ksame_any (W : World) (sv tv : Value) (l m : List Ky) (hs : KeysAt W sv l) (ht : KeysAt W tv m) :
  Calls Try.prog 32 #[sv, tv] W fun e w' => e = .returned (.bool (decide (l = m))) ∧ Below W.heap.size W w' := by
 have hmx : Try.prog.follows .mixedOrders = true := by kernel_rfl
 obtain ⟨a, cap, rfl, hnc, hcm⟩ := hs.shape
 have HS := hid hs
 obtain ⟨n, hn⟩ : ∃ n, l.length = n := ⟨_, rfl⟩
 rw [hn] at HS hnc ⊢
 have HN := hid hn
 have hlc := hid (Nat.le_trans hnc hcm)
 clear hs hnc hcm hn
 obtain ⟨a2, cap2, rfl, hnc, hcm⟩ := ht.shape
 have HT := hid ht
 obtain ⟨n2, hn⟩ : ∃ n2, m.length = n2 := ⟨_, rfl⟩
 rw [hn] at HT hnc ⊢
 have HM := hid hn
 have hlc2 := hid (Nat.le_trans hnc hcm)
 clear ht hnc hcm hn
 have hfin := hid (show ∀ X v, Below W.heap.size W X → decide (l = m) = v → (Ending.returned (.bool v) = .returned (.bool (decide (l = m))) ∧ Below W.heap.size W X) from fun X v hX h => ⟨by rw [h], hX⟩)
 obtain ⟨Post, hPost⟩ : ∃ Post : Ending → World → Prop, (fun (e : Ending) (w' : World) => e = .returned (.bool (decide (l = m))) ∧ Below W.heap.size W w') = Post := ⟨_, rfl⟩
 replace hfin := hid (show ∀ X v, Below W.heap.size W X → decide (l = m) = v → Post (.returned (.bool v)) X by rw [← hPost]; exact hfin.out)
 rw [hPost]
 clear hPost
 by_cases hnn : n = n2
 ·subst hnn
  go_enter Try.func32, Try.ntmps32
  go_wp2_with fail
  go_loopw [5] (fun i wr => ∃ k : Nat, k ≤ n ∧ i = .int .i64 (k : Int) ∧ (∀ (j : Nat), j < k → l[j]? = m[j]?) ∧ Below W.heap.size W wr) (fun i _ => n - (intOf i).toNat)
  case atStart => exact ⟨0, Nat.zero_le _, rfl, fun j h => absurd h (by omega), Below.refl _ _⟩
  case round =>
   obtain ⟨k, hk, rfl, hlt, hq⟩ := hrel
   have HLT := hid hlt
   have HQ := hid hq
   clear hlt hq
   by_cases hkn : k < n
   ·have hknI : (k : Int) < (n : Int) := by omega
    have hk0 : (0 : Int) ≤ (k : Int) := by omega
    have hkb : (k : Int) ≤ 9223372036854775806 := by have := hlc.out; omega
    obtain ⟨x, hx⟩ : ∃ x, l[k]? = some x := ⟨_, List.getElem?_eq_getElem (by have := HN.out; omega)⟩
    obtain ⟨y, hy⟩ : ∃ y, m[k]? = some y := ⟨_, List.getElem?_eq_getElem (by have := HM.out; omega)⟩
    obtain ⟨b, rfl, ax⟩ := (HS.out.later HQ.out).at hx
    obtain ⟨b2, rfl, ay⟩ := (HT.out.later HQ.out).at hy
    have LX := hid (show ∀ z : World, Grows wr z → (loadVar 31 (b.add (k * 25))).run Try.prog z = .ok (.agg (kyC x)) z from fun z hz => by obtain ⟨q, rfl⟩ := hz; exact (ax.later q.below).load)
    have LY := hid (show ∀ z : World, Grows wr z → (loadVar 31 (b2.add (k * 25))).run Try.prog z = .ok (.agg (kyC y)) z from fun z hz => by obtain ⟨q, rfl⟩ := hz; exact (ay.later q.below).load)
    have E := fun w : World => eqKey x y (HS.out.ok hx) (HT.out.ok hy) w
    have HX := hid hx
    have HY := hid hy
    have HK := hid hkn
    clear hx hy hk hkn ax ay
    generalize kyC x = cx at *
    generalize kyC y = cy at *
    cases hp : decide (x = y)
    ·rw [hp] at E
     have HP := hid hp
     clear hp
     go_wp2_with fail
     refine wp_region_quietL (C := Grows wr) hmx (by kernel_rfl) (grows_refl wr) ?_
     repeat (first | (with_reducible refine wpQuiet_load rfl 31 _ rfl _ rfl _ LX.out ?_; simp only [Act.put, sT, sS, sZ]) | (with_reducible refine wpQuiet_load rfl 31 _ rfl _ rfl _ LY.out ?_; simp only [Act.put, sT, sS, sZ]) | (go_big_quiet_step (fail)))
     refine wpQuiet_nil ?_
     rintro _ ⟨z, rfl⟩
     have HE := hid (HQ.out.trans (z.below.mono HQ.out.size))
     clear LX LY E
     go_wp2_with fail
     exact hfin.out _ _ HE.out (decide_eq_false (fun e => by
      subst e
      have := HX.out.symm.trans HY.out
      injection this with this
      exact of_decide_eq_false HP.out this))
    ·rw [hp] at E
     have HP := hid hp
     clear hp
     go_wp2_with fail
     refine wp_region_quietL (C := Grows wr) hmx (by kernel_rfl) (grows_refl wr) ?_
     repeat (first | (with_reducible refine wpQuiet_load rfl 31 _ rfl _ rfl _ LX.out ?_; simp only [Act.put, sT, sS, sZ]) | (with_reducible refine wpQuiet_load rfl 31 _ rfl _ rfl _ LY.out ?_; simp only [Act.put, sT, sS, sZ]) | (go_big_quiet_step (fail)))
     refine wpQuiet_nil ?_
     rintro _ ⟨z, rfl⟩
     have HE := hid (HQ.out.trans (z.below.mono HQ.out.size))
     clear LX LY E
     go_wp2_with fail
     go_roundw
     case rel =>
      refine ⟨k + 1, by have := HK.out; omega, by simp, fun j hj => ?_, HE.out⟩
      by_cases hjk : j < k
      ·exact HLT.out j hjk
      ·obtain rfl : j = k := by omega
       rw [HX.out, HY.out, of_decide_eq_true HP.out]
     case measure => have := HK.out; simp [intOf]; omega
   ·have hknI : ¬ (k : Int) < (n : Int) := by omega
    have hyes := hid (show decide (l = m) = true from decide_eq_true (List.ext_getElem? fun j => by
     by_cases hj : j < n
     ·exact HLT.out j (by omega)
     ·rw [List.getElem?_eq_none (by have := HN.out; omega), List.getElem?_eq_none (by have := HM.out; omega)]))
    clear hk hkn
    go_wp2_with fail
    exact hfin.out _ _ HQ.out hyes.out
 ·have hni : ¬ (n : Int) = (n2 : Int) := by omega
  have hno := hid (show decide (l = m) = false from decide_eq_false (fun e => hnn (by have := HN.out; have := HM.out; subst e; omega)))
  clear hnn
  go_enter Try.func32, Try.ntmps32
  go_wp2_with fail
  exact hfin.out _ _ (Below.refl _ _) hno.out
end
section
open Go Go.Shelf
def laySort_ren : Go.Shelf.Ren := ⟨fun
 | 6 => 49 | 15 => 62 | 14 => 61 | 28 => 73 | 29 => 74 | 20 => 65 | 21 => 66 | 22 => 67 | 23 => 68 | 24 => 69 | 25 => 70 | 26 => 71 | 27 => 72 | 46 => 75 | 47 => 76 | 48 => 77 | 49 => 78 | 50 => 79 | 57 => 80 | n => n, fun
 | 22 => 22 | 24 => 31 | 25 => 37 | 3 => 3 | 39 => 92 | 0 => 0 | 53 => 103 | 55 => 27 | 4 => 4 | 46 => 96 | 45 => 95 | 50 => 100 | 5 => 5 | 9 => 9 | 66 => 105 | 70 => 109 | 76 => 111 | 77 => 112 | n => n, fun
 | n => n⟩
theorem laySort : Go.Proofs.SlLaysF0.n6 Try.prog laySort_ren := {
 mixed := by kernel_rfl,
 f6 := ⟨Try.f49.name, by decide, Try.func49.trans (congrArg some (by kernel_rfl))⟩,
 f14 := ⟨Try.f61.name, by decide, Try.func61.trans (congrArg some (by kernel_rfl))⟩,
 f15 := Try.func62.trans (congrArg some (by kernel_rfl)),
 f20 := ⟨Try.f65.name, by decide, Try.func65.trans (congrArg some (by kernel_rfl))⟩,
 f21 := ⟨Try.f66.name, by decide, Try.func66.trans (congrArg some (by kernel_rfl))⟩,
 f22 := ⟨Try.f67.name, by decide, Try.func67.trans (congrArg some (by kernel_rfl))⟩,
 f23 := ⟨Try.f68.name, by decide, Try.func68.trans (congrArg some (by kernel_rfl))⟩,
 f24 := ⟨Try.f69.name, by decide, Try.func69.trans (congrArg some (by kernel_rfl))⟩,
 f25 := ⟨Try.f70.name, by decide, Try.func70.trans (congrArg some (by kernel_rfl))⟩,
 f26 := ⟨Try.f71.name, by decide, Try.func71.trans (congrArg some (by kernel_rfl))⟩,
 f27 := ⟨Try.f72.name, by decide, Try.func72.trans (congrArg some (by kernel_rfl))⟩,
 f28 := Try.func73.trans (congrArg some (by kernel_rfl)),
 f29 := Try.func74.trans (congrArg some (by kernel_rfl)),
 f46 := ⟨Try.f75.name, by decide, Try.func75.trans (congrArg some (by kernel_rfl))⟩,
 f47 := Try.func76.trans (congrArg some (by kernel_rfl)),
 f48 := Try.func77.trans (congrArg some (by kernel_rfl)),
 f49 := ⟨Try.f78.name, by decide, Try.func78.trans (congrArg some (by kernel_rfl))⟩,
 f50 := ⟨Try.f79.name, by decide, Try.func79.trans (congrArg some (by kernel_rfl))⟩,
 f57 := ⟨Try.f80.name, by decide, Try.func80.trans (congrArg some (by kernel_rfl))⟩,
 t0 := Try.underlying0,
 a0 := Try.isAgg0,
 z0 := Try.sizeOf0,
 v0 := Try.zeroValue0,
 t3 := Try.underlying3,
 a3 := Try.isAgg3,
 z3 := Try.sizeOf3,
 v3 := Try.zeroValue3,
 t4 := Try.underlying4,
 a4 := Try.isAgg4,
 z4 := Try.sizeOf4,
 v4 := Try.zeroValue4,
 t5 := Try.underlying5,
 a5 := Try.isAgg5,
 z5 := Try.sizeOf5,
 v5 := Try.zeroValue5,
 t9 := Try.underlying9,
 a9 := Try.isAgg9,
 z9 := Try.sizeOf9,
 v9 := Try.zeroValue9,
 t22 := Try.underlying22,
 a22 := Try.isAgg22,
 z22 := Try.sizeOf22,
 v22 := Try.zeroValue22,
 t25 := Try.underlying37,
 a25 := Try.isAgg37,
 z25 := Try.sizeOf37,
 v25 := Try.zeroValue37,
 t39 := Try.underlying92,
 a39 := Try.isAgg92,
 z39 := Try.sizeOf92,
 v39 := Try.zeroValue92,
 t45 := Try.underlying95,
 a45 := Try.isAgg95,
 z45 := Try.sizeOf95,
 v45 := Try.zeroValue95,
 t46 := Try.underlying96,
 a46 := Try.isAgg96,
 z46 := Try.sizeOf96,
 v46 := Try.zeroValue96,
 t50 := Try.underlying100,
 a50 := Try.isAgg100,
 z50 := Try.sizeOf100,
 v50 := Try.zeroValue100,
 t53 := Try.underlying103,
 a53 := Try.isAgg103,
 z53 := Try.sizeOf103,
 v53 := Try.zeroValue103,
 t55 := Try.underlying27,
 a55 := Try.isAgg27,
 z55 := Try.sizeOf27,
 v55 := Try.zeroValue27,
 t66 := Try.underlying105,
 a66 := Try.isAgg105,
 z66 := Try.sizeOf105,
 v66 := Try.zeroValue105,
 t70 := Try.underlying109,
 a70 := Try.isAgg109,
 z70 := Try.sizeOf109,
 v70 := Try.zeroValue109,
 t76 := Try.underlying111,
 a76 := Try.isAgg111,
 z76 := Try.sizeOf111,
 v76 := Try.zeroValue111,
 t77 := Try.underlying112,
 a77 := Try.isAgg112,
 z77 := Try.sizeOf112,
 v77 := Try.zeroValue112 }
end
section
open Go
def _root_.Go.Result.at {α : Type} : Result α → World
 | .ok _ w => w
 | .halt _ w => w
theorem ask_up {α : Type} : ∀ (a : Ask α) (w : World), w.drawn ≤ (w.ask a).2.drawn
 | .done _, w => by simp [World.ask]
 | .ask what range k, w => by
  unfold World.ask
  simp only
  split
  ·exact ask_up (k 0) w
  ·exact Nat.le_trans (Nat.le_succ _) (ask_up (k _) { w with drawn := w.drawn + 1 })
theorem sys_up (w : World) (c : Sys) : w.drawn ≤ (w.sys c).2.drawn := by
 unfold World.sys
 have h := ask_up (Kernel.perform c w.os) w
 split
 ·exact Nat.le_refl _
 ·rename_i r os w' hne e
  rw [e] at h
  exact h
theorem farStore_up {p : Program} {w w' : World} {a : Addr} {v : Value} {b : Bool} {l : List Addr} (h : w.farStore p a v b = .ok (w', l)) : w'.drawn = w.drawn := by
 unfold World.farStore at h
 split at h
 ·split at h
  ·rename_i r hr
   cases h
   unfold World.viewStore at hr
   simp only [bind, Except.bind, pure, Except.pure] at hr
   repeat' split at hr
   all_goals first | (cases hr; done) | (cases hr; rfl)
  ·cases h
 ·cases h
theorem freeze_up (w : World) (a : Addr) (n : Nat) : (w.freeze a n).drawn = w.drawn := by
 unfold World.freeze; split <;> rfl
theorem run_up {α : Type} (p : Program) : ∀ (s : Sem α) (w : World), w.drawn ≤ (s.run p w).at.drawn
 | .pure a, w => Nat.le_refl _
 | .load m a k, w => by
  simp only [Sem.run]
  split
  ·exact run_up p (k _) w
  ·split
   ·exact run_up p (k _) w
   ·exact Nat.le_refl _
 | .store m a v k, w => by
  cases v <;> simp only [Sem.run] <;> first | exact Nat.le_refl _ | skip
  all_goals
   split
   ·split
    ·exact Nat.le_refl _
    ·exact run_up p k (w.setCell a _)
   ·split
    ·rename_i h
     exact Nat.le_trans (Nat.le_of_eq (farStore_up h).symm) (run_up p k _)
    ·exact Nat.le_refl _
 | .new o k, w => run_up p (k _) { w with heap := w.heap.push o }
 | .shape r k, w => run_up p (k _) w
 | .freeze a n k, w => Nat.le_trans (Nat.le_of_eq (freeze_up w a n).symm) (run_up p k (w.freeze a n))
 | .frozen a k, w => run_up p (k _) w
 | .getObj r k, w => by
  simp only [Sem.run]
  split
  ·exact Nat.le_refl _
  ·exact run_up p (k _) w
  ·exact Nat.le_refl _
 | .setObj r o k, w => by
  simp only [Sem.run]
  split
  ·exact Nat.le_refl _
  ·exact run_up p k { w with heap := w.heap.setIfInBounds r o }
  ·exact Nat.le_refl _
 | .choose q k, w => by
  simp only [Sem.run]
  split
  ·exact run_up p (k _) w
  ·exact Nat.le_trans (Nat.le_succ _) (run_up p (k _) { w with drawn := w.drawn + 1 })
 | .sys c k, w => Nat.le_trans (sys_up w c) (run_up p (k (w.sys c).1) (w.sys c).2)
 | .program k, w => run_up p (k p) w
 | .mark _ k, w => run_up p k w
 | .halt h, w => Nat.le_refl _
theorem runT_up {α : Type} (p : Program) : ∀ (s : Sem α) (w : World) (es : Array Event), w.drawn ≤ (s.runT p w es).1.at.drawn
 | .pure a, w, es => Nat.le_refl _
 | .load m a k, w, es => by
  simp only [Sem.runT]
  split
  ·exact runT_up p (k _) w _
  ·split
   ·exact runT_up p (k _) w _
   ·exact Nat.le_refl _
 | .store m a v k, w, es => by
  cases v <;> simp only [Sem.runT] <;> first | exact Nat.le_refl _ | skip
  all_goals
   split
   ·split
    ·exact Nat.le_refl _
    ·exact runT_up p k (w.setCell a _) _
   ·split
    ·rename_i h
     exact Nat.le_trans (Nat.le_of_eq (farStore_up h).symm) (runT_up p k _ _)
    ·exact Nat.le_refl _
 | .new o k, w, es => runT_up p (k _) { w with heap := w.heap.push o } _
 | .shape r k, w, es => runT_up p (k _) w _
 | .freeze a n k, w, es => Nat.le_trans (Nat.le_of_eq (freeze_up w a n).symm) (runT_up p k (w.freeze a n) _)
 | .frozen a k, w, es => runT_up p (k _) w _
 | .getObj r k, w, es => by
  simp only [Sem.runT]
  split
  ·exact Nat.le_refl _
  ·exact runT_up p (k _) w _
  ·exact Nat.le_refl _
 | .setObj r o k, w, es => by
  simp only [Sem.runT]
  split
  ·exact Nat.le_refl _
  ·exact runT_up p k { w with heap := w.heap.setIfInBounds r o } _
  ·exact Nat.le_refl _
 | .choose q k, w, es => by
  simp only [Sem.runT]
  split
  ·exact runT_up p (k _) w _
  ·exact Nat.le_trans (Nat.le_succ _) (runT_up p (k _) { w with drawn := w.drawn + 1 } _)
 | .sys c k, w, es => Nat.le_trans (sys_up w c) (runT_up p (k (w.sys c).1) (w.sys c).2 _)
 | .program k, w, es => runT_up p (k p) w _
 | .mark _ k, w, es => runT_up p k w _
 | .halt h, w, es => Nat.le_refl _
theorem run_ok {α : Type} {p : Program} {s : Sem α} {w w' : World} {a : α} (h : s.run p w = .ok a w') : w.drawn ≤ w'.drawn := by have := run_up p s w; rw [h] at this; exact this
theorem run_halt {α : Type} {p : Program} {s : Sem α} {w w' : World} {a : Halt} (h : s.run p w = .halt a w') : w.drawn ≤ w'.drawn := by have := run_up p s w; rw [h] at this; exact this
def _root_.Go.GStep.at : GStep → World
 | .go _ w _ => w
 | .comm _ _ _ _ w _ => w
 | .spawn _ _ w _ => w
 | .count _ w _ => w
 | .timer _ _ w _ => w
 | .alone _ _ w _ => w
 | .newcoro _ _ _ w _ => w
 | .coroswitch _ _ _ w _ => w
 | .collect _ w _ => w
 | .watch _ w _ => w
 | .ended _ w _ => w
theorem after_at (es : Array Event) (s : GStep) : (GStep.after es s).at = s.at := by cases s <;> rfl
theorem runT_ok {α : Type} {p : Program} {s : Sem α} {w w' : World} {a : α} {es es' : Array Event} (h : s.runT p w es = (.ok a w', es')) : w.drawn ≤ w'.drawn := by have := runT_up p s w es; rw [h] at this; exact this
theorem runT_halt {α : Type} {p : Program} {s : Sem α} {w w' : World} {a : Halt} {es es' : Array Event} (h : s.runT p w es = (.halt a w', es')) : w.drawn ≤ w'.drawn := by have := runT_up p s w es; rw [h] at this; exact this
theorem fst_ok {α : Type} {p : Program} {s : Sem α} {w w' : World} {a : α} {es : Array Event} (h : (s.runT p w es).1 = .ok a w') : w.drawn ≤ w'.drawn := by have := runT_up p s w es; rw [h] at this; exact this
theorem fst_halt {α : Type} {p : Program} {s : Sem α} {w w' : World} {a : Halt} {es : Array Event} (h : (s.runT p w es).1 = .halt a w') : w.drawn ≤ w'.drawn := by have := runT_up p s w es; rw [h] at this; exact this
theorem sys_eq {w w' : World} {c : Sys} {r : SysRet} (h : w.sys c = (r, w')) : w.drawn ≤ w'.drawn := by have := sys_up w c; rw [h] at this; exact this
theorem ite_up {c : Prop} [Decidable c] {A B : GStep} {n : Nat} (hA : n ≤ A.at.drawn) (hB : n ≤ B.at.drawn) : n ≤ (if c then A else B).at.drawn := by split <;> assumption
theorem endPrinting_at (p : Program) (fr : Frame) (v : Value) (w : World) : (endPrinting p fr v w).at = w := by
 unfold endPrinting; simp only; split <;> rfl
theorem endWith_up (w : World) (fd : Nat) (t : ByteArray) (o : Outcome) : w.drawn ≤ (endWith w fd t o).at.drawn := by
 unfold endWith; simp only
 split
 ·rename_i e; have := sys_eq e; split <;> exact this
 ·rename_i e; exact sys_eq e
 ·rename_i e; exact sys_eq e
theorem endFatal_up (p : Program) (fr : Frame) (cs : List Frame) (d : Option Dying) (m : String) (w : World) : w.drawn ≤ (endFatal p fr cs d m w).at.drawn := by
 unfold endFatal; simp only
 split
 ·rename_i e; exact run_ok e
 ·rename_i e; exact run_halt e
 ·rename_i e; exact run_halt e
theorem writeOn_up (p : Program) (fr : Frame) (d : Dying) (f : Fatal) (w : World) : w.drawn ≤ (writeOn p fr d f w).at.drawn := by
 unfold writeOn; simp only
 split
 ·exact Nat.le_refl _
 ·split
  ·rename_i e; exact runT_ok e
  ·rename_i e; exact runT_halt e
  ·rename_i e; exact runT_halt e
  ·rename_i e; exact runT_halt e
theorem die_up (p : Program) (fr : Frame) (d : Dying) (w : World) : w.drawn ≤ (die p fr d w).at.drawn := by
 unfold die
 split
 ·exact writeOn_up _ _ _ _ _
 ·split
  ·split
   ·exact Nat.le_refl _
   ·exact endWith_up _ _ _ _
  ·simp only
   split
   ·exact Nat.le_refl _
   ·split
    ·rename_i e; exact run_ok e
    ·rename_i e; exact run_halt e
   ·simp only [after_at]
    split
    ·rename_i e; exact fst_ok e
    ·rename_i e; exact fst_ok e
    ·rename_i e; exact fst_halt e
    ·rename_i e; rw [endPrinting_at]; exact fst_halt e
    ·exact Nat.le_refl _
   ·exact Nat.le_refl _
theorem early_up (p : Program) (fr : Frame) (cs : List Frame) (d : Option Dying) (g : Nat) (w : World) : w.drawn ≤ (early p fr cs d g w).at.drawn := by
 unfold early; simp only
 repeat' split
 all_goals simp only [GStep.at]
 all_goals first | exact Nat.le_refl _ | exact run_ok ‹_› | exact run_halt ‹_›
theorem doReturn_up (p : Program) (main : Bool) (fr : Frame) (cs : List Frame) (d : Option Dying) (v : Value) (w : World) : (doReturn p main fr cs d v w).at = w := by
 unfold doReturn; simp only
 repeat' split
 all_goals rfl
theorem callDeferred_up (p : Program) (fr : Frame) (cs : List Frame) (d : Option Dying) (f : Deferred) (w : World) : w.drawn ≤ (callDeferred p fr cs d f w).at.drawn := by
 unfold callDeferred; simp only
 refine ite_up (Nat.le_refl _) ?_
 simp only [after_at]
 have h := runT_up p (invoke f.target f.args) w #[]
 generalize (Sem.runT p (invoke f.target f.args) w #[]).1 = r at h ⊢
 cases r with
 | ok n w' =>
  have h' : w.drawn ≤ w'.drawn := h
  cases n with
  | recover =>
   generalize fr.mode = m
   generalize tryRecover fr cs = t
   cases m <;> cases t <;> exact h'
  | alone on v => cases on <;> exact h'
  | coroswitch c e => cases e <;> exact h'
  | _ => exact h'
 | halt n w' =>
  have h' : w.drawn ≤ w'.drawn := h
  cases n with
  | fatal m => exact Nat.le_trans h' (endFatal_up _ _ _ _ _ _)
  | _ => exact h'
theorem unwind_up (p : Program) (main : Bool) (fr : Frame) (cs : List Frame) (d : Option Dying) (w : World) : w.drawn ≤ (unwind p main fr cs d w).at.drawn := by
 unfold unwind
 split
 ·simp only [after_at]
  split
  ·rename_i e; exact fst_ok e
  ·rename_i e; exact fst_halt e
 ·exact callDeferred_up _ _ _ _ _ _
 ·split
  ·exact Nat.le_refl _
  ·split
   ·exact Nat.le_refl _
   ·split
    ·exact Nat.le_refl _
    ·split
     ·split
      ·exact Nat.le_refl _
      ·split
       ·exact run_ok ‹_›
       ·exact run_halt ‹_›
       ·exact run_halt ‹_›
     ·split
      ·rw [endPrinting_at]; exact Nat.le_refl _
      ·exact Nat.le_refl _
  ·split
   ·rw [doReturn_up]; exact Nat.le_refl _
   ·simp only [after_at]
    split
    ·rename_i e; rw [doReturn_up]; exact fst_ok e
    ·rename_i e; exact fst_halt e
    ·rename_i e; exact fst_halt e
theorem apply_up (p : Program) (fr : Frame) (cs : List Frame) (d : Option Dying) (s : Sem Next) (w : World) (b : Bool) : w.drawn ≤ (stepG.apply p b fr cs d s w).at.drawn := by
 unfold stepG.apply
 simp only [after_at]
 have h : w.drawn ≤ (if b = true then s.runT p w #[] else (s.run p w, #[])).1.at.drawn := by
  split
  ·exact runT_up p s w #[]
  ·exact run_up p s w
 generalize (if b = true then s.runT p w #[] else (s.run p w, #[])).1 = r at h ⊢
 cases r with
 | ok n w' =>
  have h' : w.drawn ≤ w'.drawn := h
  cases n with
  | callThen d r sv wr => simp only; split <;> exact h'
  | row r a => simp only; split <;> exact h'
  | stack r a => simp only; split <;> exact h'
  | recover => simp only; split <;> exact h'
  | spawn d => exact ite_up h' h'
  | _ => exact h'
 | halt n w' =>
  have h' : w.drawn ≤ w'.drawn := h
  cases n with
  | fatal m => exact Nat.le_trans h' (endFatal_up _ _ _ _ _ _)
  | unsupported u =>
   cases u with
   | initOrder g => exact Nat.le_trans h' (early_up _ _ _ _ _ _)
   | _ => exact h'
  | _ => exact h'
theorem oper_up (p : Program) (fr : Frame) (cs : List Frame) (d : Option Dying) (w : World) (b : Bool) : w.drawn ≤ (stepG.oper p b fr cs d w).at.drawn := by
 unfold stepG.oper
 split
 ·exact Nat.le_refl _
 ·split <;> exact apply_up _ _ _ _ _ _ _
theorem exec_up (p : Program) (main : Bool) (fr : Frame) (cs : List Frame) (d : Option Dying) (w : World) (b : Bool) : w.drawn ≤ (stepG.exec p main b fr cs d w).at.drawn := by
 unfold stepG.exec
 simp only
 split
 all_goals first
  | exact Nat.le_refl _
  | exact apply_up _ _ _ _ _ _ _
  | (split
     ·exact ite_up (Nat.le_refl _) (Nat.le_refl _)
     ·(rw [after_at]; split <;> (rename_i e; first | (rw [doReturn_up]; exact fst_ok e) | exact fst_halt e)))
  | (split <;> exact Nat.le_refl _)
  | (rename_i x _ _
     generalize exitTo x _ = o
     cases o
     ·show w.drawn ≤ (match fr.roundOf with | none => _ | some l => _ : GStep).at.drawn
      split
      ·exact ite_up (Nat.le_refl _) (Nat.le_refl _)
      ·(rw [after_at]; split <;> (rename_i e; first | (rw [doReturn_up]; exact fst_ok e) | exact fst_halt e))
     ·exact Nat.le_refl _)
  | (rename_i x _ _
     generalize gotoIn x _ = o
     cases o
     ·show w.drawn ≤ (match fr.roundOf with | none => _ | some l => _ : GStep).at.drawn
      split
      ·exact ite_up (Nat.le_refl _) (Nat.le_refl _)
      ·(rw [after_at]; split <;> (rename_i e; first | (rw [doReturn_up]; exact fst_ok e) | exact fst_halt e))
     ·exact Nat.le_refl _)
  | (rw [after_at]
     split
     ·rename_i e; exact Nat.le_trans (fst_ok e) (apply_up _ _ _ _ _ _ _)
     ·rename_i e; exact fst_halt e)
  | (rw [after_at]
     split
     ·rename_i e; exact fst_ok e
     ·rename_i e; exact fst_halt e
     ·rename_i e; exact fst_halt e)
  | (rename_i row _ _ _
     generalize Extern.next row = o
     cases o
     ·exact Nat.le_refl _
     ·exact apply_up _ _ _ _ _ _ _)
  | (split
     ·exact Nat.le_refl _
     ·split
      ·exact run_ok ‹_›
      ·exact run_halt ‹_›)
  | (split
     ·exact oper_up _ _ _ _ _ _
     ·exact Nat.le_refl _)
theorem stepG_up (p : Program) (main : Bool) (g : Goroutine) (w : World) (b : Bool) : w.drawn ≤ (stepG p main g w b).at.drawn := by
 unfold stepG
 simp only
 split
 ·exact die_up _ _ _ _
 ·exact exec_up _ _ _ _ _ _ _
 ·exact unwind_up _ _ _ _ _ _
def _root_.Go.Stepped.at : Stepped → World
 | .next m => m.world
 | .ended _ w => w
theorem waitingAt_up {rest : Rest} {cs : Array CommCase} {w w' : World} (h : waitingAt rest cs w = some w') : w'.drawn = w.drawn := by
 unfold waitingAt at h
 split at h
 ·split at h
  ·cases h; rfl
  ·cases h
 ·cases h; rfl
theorem communicate_up (p : Program) (rest : Rest) (gs : Array Goroutine) (i : Nat) (g : Goroutine) (cases : Array CommCase) (blocking : Bool) (shape : CommShape) (w : World) :
  w.drawn ≤ (communicate p rest gs i g cases blocking shape w).1.at.drawn := by
 unfold communicate
 simp only
 split
 ·exact Nat.le_refl _
 ·split
  ·split
   ·split
    ·rename_i h; exact Nat.le_of_eq (waitingAt_up h).symm
    ·exact Nat.le_refl _
   ·exact Nat.le_refl _
  ·split
   ·rename_i e; exact run_halt e
   ·rename_i e
    have h := run_ok e
    clear e
    split
    ·split
     ·rename_i e; exact Nat.le_trans h (run_halt e)
     ·exact h
    ·exact h
    ·exact h
    ·split
     ·exact h
     ·split
      ·rename_i e; have h2 := run_ok e; exact Nat.le_trans h h2
      ·rename_i e; exact Nat.le_trans h (run_halt e)
    ·exact h
    ·exact h
    ·exact h
theorem look_up (p : Program) (gs : Array Goroutine) (rest : Rest) (w : World) : w.drawn ≤ (look p gs rest w).at.drawn := by
 unfold look
 simp only
 split
 ·split
  ·exact Nat.le_refl _
  ·split
   ·exact Nat.le_refl _
   ·split
    ·rename_i e; have h2 := run_ok e; exact h2
    ·rename_i e; have h2 := run_halt e; exact h2
    ·rename_i e; have h2 := run_halt e; exact h2
 ·exact Nat.le_refl _
theorem serve_up (p : Program) (m : Machine) (k : Nat) : m.world.drawn ≤ (serve p m k).at.drawn := by
 unfold serve
 split
 ·exact Nat.le_refl _
 ·exact Nat.le_refl _
 ·simp only
  split <;> exact Nat.le_refl _
theorem drain_up (w : World) (c : Nat) : (drain w c).2.drawn = w.drawn := by
 unfold drain; split <;> rfl
theorem retime_up (m : Machine) (k : Nat) (t : Timer) (a b : Nat) : (retime m k t a b).2.world.drawn = m.world.drawn := by
 unfold retime
 simp only
 split
 ·exact drain_up _ _
 ·rfl
theorem timerOp_up {m m' : Machine} {op : TimerOp} {v : Value} (h : timerOp m op = .ok (v, m')) : m'.world.drawn = m.world.drawn := by
 unfold timerOp at h
 split at h
 ·split at h
  ·cases h; rfl
  ·split at h
   ·split at h
    ·cases h
    ·cases h; rfl
   ·cases h
 ·unfold timerOp.named at h
  split at h
  ·injection h with h
   have := congrArg (fun x => x.2.world.drawn) h
   exact this.symm.trans (retime_up _ _ _ _ _)
  ·cases h
 ·split at h
  ·rename_i m1 ho
   have e1 : m1.world.drawn = m.world.drawn := by
    unfold timerOp.opened at ho
    split at ho
    ·split at ho
     ·cases ho; rfl
     ·cases ho
    ·cases ho; rfl
   unfold timerOp.named at h
   split at h
   ·injection h with h
    have := congrArg (fun x => x.2.world.drawn) h
    exact (this.symm.trans (retime_up _ _ _ _ _)).trans e1
   ·cases h
  ·cases h
 ·simp only at h
  cases h; rfl
theorem runT_step (p : Program) (m : Machine) (i : Nat) (b : Bool) : m.world.drawn ≤ (runT p m i b).1.at.drawn := by
 unfold runT
 simp only
 have h := stepG_up p (i == 0) (m.gs.swapAt! i { (default : Goroutine) with status := .finished }).1 m.world b
 generalize stepG p (i == 0) (m.gs.swapAt! i { (default : Goroutine) with status := .finished }).1 m.world b = s at h ⊢
 cases s with
 | ended o w es => exact h
 | comm g cases blocking shape w es => exact Nat.le_trans h (communicate_up _ _ _ _ _ _ _ _ _)
 | go g w es => exact h
 | spawn g c w es => exact h
 | count g w es =>
  have h' : m.world.drawn ≤ w.drawn := h
  simp only
  split <;> exact h'
 | alone g on w es => exact h
 | collect g w es => exact Nat.le_trans h (look_up _ _ _ _)
 | watch g w es => exact h
 | newcoro g c d w es => exact h
 | coroswitch g c exit w es =>
  have h' : m.world.drawn ≤ w.drawn := h
  simp only
  split
  ·exact h'
  ·exact h'
  ·exact h'
 | timer g op w es =>
  have h' : m.world.drawn ≤ w.drawn := h
  simp only
  split
  ·rename_i e; exact Nat.le_trans h' (Nat.le_of_eq (timerOp_up e).symm)
  ·exact h'
  ·exact h'
  ·exact h'
def _root_.Go.Move.low (n : Nat) : Move → Prop
 | .goroutine m _ => n ≤ m.world.drawn
 | .machine (.next m) _ => n ≤ m.world.drawn
 | .machine (.ended _ _) _ => True
theorem low_of {n : Nat} {s : Stepped} {ops : Array MemOp} (h : n ≤ s.at.drawn) : (Move.machine s ops).low n := by cases s <;> first | exact h | trivial
theorem askOn_low (p : Program) (m : Machine) {n : Nat} (hn : n ≤ m.world.drawn) : (askOn p m).low n := by
 unfold askOn
 simp only
 split
 ·trivial
 ·rename_i k world e
  have h := Nat.le_trans hn (run_ok e)
  split
  ·exact low_of (Nat.le_trans h (serve_up p { m with world := world } _))
  ·split
   ·split
    ·exact h
    ·split
     ·exact h
     ·split <;> trivial
   ·split
    ·(have hx := h; split <;> first | trivial | (rename_i e; have h0 := run_ok e; have h3 := Nat.le_trans hx h0; split <;> first | exact h3 | (split <;> first | trivial | (rename_i e; have h4 := run_ok e; exact Nat.le_trans h3 h4))))
    ·split
     ·trivial
     ·rename_i e; have h2 := run_ok e; (have hx := Nat.le_trans h h2; split <;> first | trivial | (rename_i e; have h0 := run_ok e; have h3 := Nat.le_trans hx h0; split <;> first | exact h3 | (split <;> first | trivial | (rename_i e; have h4 := run_ok e; exact Nat.le_trans h3 h4))))
     ·rename_i e; have h2 := run_ok e; exact Nat.le_trans h h2
     ·rename_i e; have h2 := run_ok e; (have hx := Nat.le_trans h h2; split <;> first | trivial | (rename_i e; have h0 := run_ok e; have h3 := Nat.le_trans hx h0; split <;> first | exact h3 | (split <;> first | trivial | (rename_i e; have h4 := run_ok e; exact Nat.le_trans h3 h4))))
theorem ask_low (p : Program) (m : Machine) {n : Nat} (hn : n ≤ m.world.drawn) : (ask p m).low n := by
 unfold ask
 split
 ·split
  ·trivial
  ·rename_i e
   have h := Nat.le_trans hn (run_ok e)
   have h2 := look_up p m.gs m.rest _ |> Nat.le_trans h
   split
   ·rename_i e; rw [e] at h2; exact askOn_low p _ h2
   ·exact low_of h2
  ·rename_i e
   have h := Nat.le_trans hn (run_ok e)
   exact askOn_low p _ h
 ·exact askOn_low p m hn
theorem move_low (p : Program) (m : Machine) : (move p m).low m.world.drawn := by
 unfold move
 split
 ·split
  ·exact Nat.le_refl _
  ·trivial
 ·split
  ·split
   ·exact Nat.le_refl _
   ·exact ask_low p _ (Nat.le_refl _)
  ·exact ask_low p _ (Nat.le_refl _)
theorem step_up {p : Program} {m m' : Machine} (h : step p m = .next m') : m.world.drawn ≤ m'.world.drawn := by
 unfold step stepT at h
 have hl := move_low p m
 generalize move p m = mv at h hl
 cases mv with
 | goroutine a i =>
  have hr := runT_step p a i true
  simp only at h
  rw [h] at hr
  exact Nat.le_trans hl hr
 | machine s ops =>
  simp only at h
  subst h
  exact hl
theorem runN_up {p : Program} : ∀ (n : Nat) {m m' : Machine}, runN p n m = .next m' → m.world.drawn ≤ m'.world.drawn
 | 0, m, m', h => by cases h; exact Nat.le_refl _
 | n + 1, m, m', h => by
  unfold runN at h
  split at h
  ·rename_i e; exact Nat.le_trans (step_up e) (runN_up n h)
  ·rename_i hne
   exact absurd h (hne _)
theorem steps_up {p : Program} {m m' : Machine} (h : Steps p m m') : m.world.drawn ≤ m'.world.drawn := by
 obtain ⟨n, hn⟩ := h
 exact runN_up n hn
theorem calls_up {p : Program} {f : FuncId} {args : Array Value} {w : World} {R : Ending → World → Prop} (h : Calls p f args w R) :
  Calls p f args w fun e w' => R e w' ∧ (e = .outgrown ∨ w.drawn ≤ w'.drawn) := fun cs => by
 obtain ⟨e, w', fr, hR, hc, hf, hl⟩ := h cs
 refine ⟨e, w', fr, ⟨hR, ?_⟩, hc, hf, hl⟩
 cases e with
 | returned v => exact .inr (steps_up hc)
 | panicked ch => exact .inr (steps_up hc)
 | outgrown => exact .inl rfl
end
section
open Go Go.RowKit
variable {P : Program} (w : World)
def NewBlock (w : World) (v v' : Value) : Prop := v'.ownBlock = v.ownBlock ∨ v'.ownBlock = some w.heap.size
end
section
open Go Go.RowKit
variable {P : Program} (w : World)
theorem run_append_src (base : Nat) (t tx ty e : TypeId) (i : TypeInfo) (z : Value) (size bytes : Nat) (ht : P.underlying t = some (.slice e)) (hi : P.info? e = some i) (hz : i.zero = some z)
  (hsize : i.size = size) (hby : i.bytes = bytes) (hzs : z.cells.size = size) (_hs0 : 0 < size) (v : Value) (n : Nat) (xs : List Value) (hown : w.ownsRow base e size v n xs)
  (x : Value) (m : Nat) (hm : 0 < m) (news : List Value) (hsrc : Src P i.size tx x m news w)
  (hb : (n + m) * bytes ≤ 140737488355328) (h63 : n + m ≤ maxLen) (hbase : base ≤ w.heap.size) :
  ∃ v' w', (Builtin.append_ #[t, tx] ty #[v, x]).run P w = .ok v' w' ∧ w'.ownsRow base e size v' (n + m) (xs ++ news) ∧ w.grownBy w' v.ownBlock ∧ NewBlock w v v' := by
 have hl : news.length = m * size := by rw [← hsize]; exact hsrc.newsLen
 have hlen : (xs ++ news).length = (n + m) * size := by rw [List.length_append, hown.1, hl, Nat.add_mul]
 have grown : ∀ (old : Nat), old < n + m → ∀ (row : Option Nat),
   (w.drew.alloc (.cells (xs.toArray ++ news.toArray ++ Builtin.zeroCells z.cells (grownCap w (n + m) old e - (n + m))) e)).ownsRow base e size
    (.slice (some ⟨w.heap.size, 0, none⟩) (n + m) (grownCap w (n + m) old e)) (n + m) (xs ++ news) ∧
   w.grownBy (w.drew.alloc (.cells (xs.toArray ++ news.toArray ++ Builtin.zeroCells z.cells (grownCap w (n + m) old e - (n + m))) e)) row := by
  intro old ho row
  have hge := grownCap_ge w (n + m) old e
  have hcm : grownCap w (n + m) old e ≤ maxLen := grownCap_le_maxLen w (n + m) old e h63
  refine ⟨⟨hlen, .inr ⟨w.heap.size, _, _, rfl, hbase, heap_alloc_new w.drew _, hge, hcm, ?_, ?_⟩⟩, ⟨rfl, rfl, rfl, by simp, fun k hk _ => Below.heap_alloc w.drew _ k hk⟩⟩
  ·simp only [Array.size_append, List.size_toArray, size_zeroCells, hzs, hown.1, hl, ← Nat.add_mul]
   congr 1
   omega
  ·simp only [Array.toList_append, List.append_assoc]
   rw [← List.append_assoc, ← hlen]
   exact List.take_left
 rcases hown.2 with ⟨rfl, rfl⟩ | ⟨g, cap, cur, rfl, hbg, hg, hnc, hcm, hcs, htake⟩
 ·have hx : xs = [] := List.eq_nil_of_length_eq_zero (by simpa using hown.1)
  subst hx
  have hr := run_append_grow_src (P := P) w t tx ty e i z ht hi hz none 0 0 [] (by simp [Builtin.firstCells]) x m news hsrc (by omega) (by simp only [maxLen] at h63; omega) (growslice_fits (by omega) (by rw [hby]; exact hb))
  have hgr := grown 0 (by omega) (Value.ownBlock (.slice none 0 0))
  simp only [List.nil_append, Array.empty_append, Nat.zero_add] at hr hgr ⊢
  exact ⟨_, _, hr, hgr.1, hgr.2, .inr rfl⟩
 ·by_cases hroom : n + m ≤ cap
  ·have hfit : n * i.size + news.length ≤ cur.size := by rw [hl, hcs, hsize, ← Nat.add_mul]; exact Nat.mul_le_mul_right _ hroom
   have hst := run_storeCells_at P g (n * i.size) e news 0 cur w hg (by simpa using hfit) hsrc.one
   simp only [Nat.add_zero] at hst
   have hr : (Builtin.append_ #[t, tx] ty #[.slice (some ⟨g, 0, none⟩) n cap, x]).run P w = .ok (.slice (some ⟨g, 0, none⟩) (n + m) cap) (w.setRow g (cur.toList.take (n * i.size) ++ news ++ cur.toList.drop (n * i.size + news.length)).toArray) := by
    rcases hsrc.kind with ⟨e', hk⟩ | hk <;> simp [Builtin.append_, run_underlying ht, run_underlying hk, sizeOf, typeInfo, hi, hsrc.len, hroom, hsrc.cells, Addr.add_lit, hst]
   rw [hsize] at hr
   refine ⟨_, _, hr, ⟨hlen, .inr ⟨g, cap, _, rfl, hbg, setRow_heap w g cur _ e _ hg, hroom, hcm, ?_, ?_⟩⟩, ⟨rfl, rfl, rfl, by simp, fun k _ hk => setRow_other w g k _ (fun e => hk (by simp [Value.ownBlock, e]))⟩, .inl rfl⟩
   ·rw [hsize] at hfit
    simp only [List.size_toArray, List.length_append, List.length_take, List.length_drop, Array.length_toList]
    omega
   ·rw [htake, ← hlen]
    exact List.take_left
  ·have holds : (Builtin.firstCells i.size n (.slice (some ⟨g, 0, none⟩) n cap)).run P w.drew = .ok xs.toArray w.drew := by
    rw [hsize]
    exact run_firstCells_some w.drew size n ⟨g, 0, none⟩ n cap xs hown.1 (fun j u hj => by
     have := hown.cells (g := g) rfl j u hj
     simpa using this)
   have hr := run_append_grow_src (P := P) w t tx ty e i z ht hi hz (some ⟨g, 0, none⟩) n cap xs holds x m news hsrc (by omega) (by simp only [maxLen] at h63; omega) (growslice_fits (by omega) (by rw [hby]; exact hb))
   have hgr := grown cap (by omega) (Value.ownBlock (.slice (some ⟨g, 0, none⟩) n cap))
   have hap : ((xs ++ news).toArray : Array Value) = xs.toArray ++ news.toArray := by simp
   rw [hap] at hr
   exact ⟨_, _, hr, hgr.1, hgr.2, .inr rfl⟩
end
end Go.Proofs.Ytahjgllnfbejmaa
