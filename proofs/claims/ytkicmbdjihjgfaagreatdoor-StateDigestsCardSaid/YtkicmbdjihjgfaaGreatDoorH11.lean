/- Part. -/
import Derived.Lib.AppendZerosOnto
import Derived.Test.YtkicmbdjihjgfaaGreatDoorH10
set_option maxRecDepth 100000
set_option maxHeartbeats 16000000
namespace Go.Proofs.YtkicmbdjihjgfaaGreatDoor
open Go Go.RowKit
attribute [local go_sem] Oper.semAt_some Grows wide_fn
theorem grow_ac (W : World) (n : Nat) (hn : n ≤ 100000) :
  Calls Tryz.prog 90 #[.slice none 0 0, .int .i64 (n : Int)] W fun e w' => ∃ v', e = .returned v' ∧ RowA w' W.heap.size v' [] ∧ Below W.heap.size W w' := by
 have hnI : (n : Int) ≤ 100000 := by omega
 have hn0 : ¬ ((n : Int) < 0) := by omega
 by_cases h0 : n = 0
 ·subst h0
  go_enter Tryz.func90, Tryz.ntmps90
  go_wp2_with fail
  go_ret
  exact ⟨_, rfl, RowA.nil _ _, Below.refl _ _⟩
 ·have h4 : (n : Int) > 0 := by omega
  obtain ⟨i, z, hi, hz, hzs, hsz, hby⟩ := infoA_of
  have h := Lib.run_append_grow_zeros (P := Tryz.prog) W 22 3 22 31 i z .i64 .i64 Tryz.underlying22 Tryz.underlying3 hi hz none 0 0 [] (run_firstCells_none W.drew i.size 0 0 0) n (by omega) (by omega) (by omega) (by omega) (by rw [hby]; omega) (by rw [Nat.zero_add]; exact growslice_fits (by omega) (by rw [hby]; omega))
  simp only [Nat.zero_add] at h
  have hge : n ≤ grownCap W n 0 31 := grownCap_ge W n 0 _
  have hcm : grownCap W n 0 31 ≤ maxLen := grownCap_le_maxLen W n 0 _ (by unfold maxLen; omega)
  generalize grownCap W n 0 31 = G at *
  obtain ⟨cs, hcs⟩ : ∃ cs : Array Value, #[] ++ Builtin.zeroCells z.cells n ++ Builtin.zeroCells z.cells (G - n) = cs := ⟨_, rfl⟩
  have hcz : cs.size = G * 27 := by
   rw [← hcs]
   simp only [Array.size_append, size_zeroCells, hzs]
   simp
   omega
  rw [show ([] : List Value).toArray = #[] from rfl, hcs] at h
  have hq0 := newA W (.cells cs 31)
  have hrow := hid (show RowA (W.drew.alloc (.cells cs 31)) W.heap.size (.slice (some ⟨W.heap.size, 0, none⟩) 0 G) [] from World.ownsRow_made (base := W.heap.size) (e := 31) (size := 27) W.drew cs G (Nat.le_refl _) hcm hcz)
  have HB := hid (show Below W.heap.size W (W.drew.alloc (.cells cs 31)) from ⟨rfl, rfl, rfl, by simp, fun k hk => Below.heap_alloc W.drew _ k hk⟩)
  have hG63 : (G : Int) ≤ 9223372036854775807 := by unfold maxLen at hcm; omega
  have hG0 : (0 : Int) ≤ (G : Int) := by omega
  clear hi hz hzs hsz hby hcs hcz hq0 hge hcm h0
  go_enter Tryz.func90, Tryz.ntmps90
  go_wp2_with (at_builtin; refine Lib.wpList_append_run _ rfl _ _ _ _ rfl _ _ rfl rfl _ _ h ?_)
  go_ret
  exact ⟨_, rfl, hrow.out, HB.out⟩
def sumL (vs : List (Value × List Pa)) : Nat := (vs.map (·.2.length)).sum
def catL (vs : List (Value × List Pa)) : List Pa := vs.flatMap (·.2)
theorem catL_len : ∀ (vs : List (Value × List Pa)), (catL vs).length = sumL vs
 | [] => rfl
 | x :: l => by
  have := catL_len l
  simp only [catL, sumL, List.flatMap_cons, List.length_append, List.map_cons, List.sum_cons] at this ⊢
  omega
theorem sumL_take (vs : List (Value × List Pa)) (k : Nat) (q : Value × List Pa) (h : vs[k]? = some q) : sumL (vs.take (k + 1)) = sumL (vs.take k) + q.2.length := by
 unfold sumL
 rw [List.take_add_one, h, List.map_append, List.sum_append]
 simp
theorem catL_take (vs : List (Value × List Pa)) (k : Nat) (q : Value × List Pa) (h : vs[k]? = some q) : catL (vs.take (k + 1)) = catL (vs.take k) ++ q.2 := by
 unfold catL
 rw [List.take_add_one, h, List.flatMap_append]
 simp
theorem sumL_le (vs : List (Value × List Pa)) (k : Nat) : sumL (vs.take k) ≤ sumL vs := by
 have e : sumL vs = sumL (vs.take k) + sumL (vs.drop k) := by
  conv => lhs; rw [← List.take_append_drop k vs]
  unfold sumL
  rw [List.map_append, List.sum_append]
 omega
theorem concat_any (W : World) (B : Nat) (vs : List (Value × List Pa)) (hv : ∀ (i : Nat) (q : Value × List Pa), vs[i]? = some q → W.cell? ⟨B, i, none⟩ = some q.1 ∧ RowIn W q.1 q.2 ∧ ∀ p ∈ q.2, p.2.oneCell' = true) (hn : vs.length ≤ 1000) (hs : sumL vs ≤ 100000) :
  Calls Tryz.prog 61 #[.slice (some ⟨B, 0, none⟩) vs.length vs.length] W fun e w' => ∃ v', e = .returned v' ∧ RowA w' W.heap.size v' (catL vs) ∧ Below W.heap.size W w' := by
 have HV := hid hv
 have HSS := hid hs
 have HTK := hid (sumL_le vs)
 obtain ⟨n, hnn⟩ : ∃ n, vs.length = n := ⟨_, rfl⟩
 rw [hnn] at hn ⊢
 have HN := hid hnn
 have HL := hid hn
 clear hv hs hnn hn
 go_enter Tryz.func61, Tryz.ntmps61
 go_wp2_with fail
 go_loopw [11, 3] (fun i s wr => ∃ k : Nat, k ≤ n ∧ i = .int .i64 (k : Int) ∧ s = .int .i64 ((sumL (vs.take k) : Nat) : Int) ∧ wr = W) (fun i _ _ => n - (intOf i).toNat)
 case atStart => exact ⟨0, by omega, rfl, rfl, rfl⟩
 case round =>
  obtain ⟨k, hk, rfl, rfl, hw⟩ := hrel
  obtain rfl : W = wr := hw.symm
  clear hw
  have hlk : (sumL (vs.take k) : Int) ≤ 100000 := by have := HTK.out k; have := HSS.out; omega
  have hs0 : (0 : Int) ≤ ((sumL (vs.take k) : Nat) : Int) := by omega
  by_cases hkn : k < n
  ·have hknI : (k : Int) < (n : Int) := by omega
   have hk0 : (0 : Int) ≤ (k : Int) := by omega
   have hkb : (k : Int) ≤ 1000 := by have := HL.out; omega
   obtain ⟨q, hq⟩ : ∃ q, vs[k]? = some q := ⟨_, List.getElem?_eq_getElem (by have := HN.out; omega)⟩
   obtain ⟨c, hr, h1⟩ := HV.out k q hq
   obtain ⟨a, cap, hqv, hnc, hcm, _⟩ := hr
   rw [hqv] at c
   have HT := hid (sumL_take vs k q hq)
   have hl2 : ((sumL (vs.take k) : Nat) : Int) + (q.2.length : Int) ≤ 100000 := by have := HTK.out (k + 1); have := HSS.out; have := HT.out; omega
   have hl0 : ¬ ((sumL (vs.take k) : Nat) : Int) + (q.2.length : Int) < 0 := by omega
   have ha : (⟨B, 0, none⟩ : Addr).add k = ⟨B, k, none⟩ := by unfold Addr.add; split <;> simp_all
   have HK := hid hkn
   clear hkn hq h1 hnc hcm hk
   generalize hsum : sumL (vs.take k) = sm at *
   clear hsum
   go_wp2_with fail
   go_roundw
   case rel => exact ⟨k + 1, by have := HK.out; omega, by simp, by rw [HT.out]; simp, by first | trivial | rfl⟩
   case measure => have := HK.out; simp [intOf]; omega
  ·obtain rfl : k = n := by omega
   have hkk : ¬ (k : Int) < (k : Int) := by omega
   have HE := hid (show vs.take k = vs by rw [← HN.out, List.take_length])
   have hG := hid (grow_ac W (sumL (vs.take k)) (by have := HTK.out k; have := HSS.out; omega))
   generalize hsum : sumL (vs.take k) = sm at *
   clear hsum
   go_wp2_with fail
   refine hG.out.mono ?_
   rintro _ w1 ⟨v1, rfl, hrow, q1⟩
   have R1 := hid hrow
   have Q1 := hid q1
   clear hrow q1 hG
   go_wp2_with fail
   go_loopw [27, 6] (fun i v wx => ∃ (m : Nat), m ≤ k ∧ i = .int .i64 (m : Int) ∧ RowA wx W.heap.size v (catL (vs.take m)) ∧ Below W.heap.size W wx) (fun i _ _ => k - (intOf i).toNat)
   case atStart => exact ⟨0, by omega, rfl, R1.out, Q1.out⟩
   case round =>
    obtain ⟨m, hm, rfl, hrow, hq⟩ := hrel
    have RO := hid hrow
    have HQ := hid hq
    clear hrow hq
    by_cases hmk : m < k
    ·have hmI : (m : Int) < (k : Int) := by omega
     have hm0 : (0 : Int) ≤ (m : Int) := by omega
     have hmb : (m : Int) ≤ 1000 := by have := HL.out; omega
     obtain ⟨q, hq⟩ : ∃ q, vs[m]? = some q := ⟨_, List.getElem?_eq_getElem (by have := HN.out; omega)⟩
     obtain ⟨c, hr, h1⟩ := HV.out m q hq
     have c' := cell_below HQ.out _ _ c
     have ha : (⟨B, 0, none⟩ : Addr).add m = ⟨B, m, none⟩ := by unfold Addr.add; split <;> simp_all
     have HT := hid (catL_take vs m q hq)
     have hlen : (catL (vs.take m)).length + q.2.length ≤ 100000 := by
      have e := congrArg List.length HT.out
      rw [catL_len, List.length_append] at e
      have := HTK.out (m + 1)
      have := HSS.out
      omega
     obtain ⟨v', w', happ, hrow', _, hbel⟩ := append_acs _ W.heap.size u6 _ RO.out HQ.out.size q.1 q.2 (hr.later HQ.out) h1 hlen
     have R2 := hid hrow'
     have Q2 := hid (HQ.out.trans hbel)
     have HK := hid hmk
     generalize q.1 = qv at *
     clear hmk hq hr h1 hlen hrow' hbel c hm
     go_wp2_with (at_builtin; refine wpList_append_run rfl (.tmp 31) (.tmp 32) 22 rfl _ _ _ rfl rfl happ ?_)
     go_roundw
     case rel => exact ⟨m + 1, by have := HK.out; omega, by simp, by rw [HT.out]; exact R2.out, Q2.out⟩
     case measure => have := HK.out; simp [intOf]; omega
    ·obtain rfl : m = k := by omega
     have hmm : ¬ (m : Int) < (m : Int) := by omega
     have RF := hid (show RowA wr W.heap.size u6 (catL vs) by have := RO.out; rwa [HE.out] at this)
     go_wp2_with fail
     go_ret
     exact ⟨_, rfl, RF.out, HQ.out⟩
noncomputable def findA (l : List Ac) (t : Nat) : Ac := (l.find? (fun x => decide (x.at_ = t))).getD ⟨t, 0, 0, ⟨#[]⟩, []⟩
theorem findA_hit {l : List Ac} {t k : Nat} {x : Ac} (hx : l[k]? = some x) (he : x.at_ = t) (hl : ∀ j y, j < k → l[j]? = some y → y.at_ ≠ t) : findA l t = x := by
 unfold findA
 have : l.find? (fun x => decide (x.at_ = t)) = some x := by
  obtain ⟨hk, rfl⟩ := List.getElem?_eq_some_iff.1 hx
  rw [List.find?_eq_some_iff_getElem]
  exact ⟨by simpa using he, k, hk, rfl, fun j hj => by simpa using hl j _ hj (List.getElem?_eq_getElem (by omega))⟩
 rw [this]
 rfl
theorem findA_none {l : List Ac} {t : Nat} (hl : ∀ (j : Nat) (y : Ac), l[j]? = some y → y.at_ ≠ t) : findA l t = ⟨t, 0, 0, ⟨#[]⟩, []⟩ := by
 unfold findA
 have : l.find? (fun x => decide (x.at_ = t)) = none := by
  rw [List.find?_eq_none]
  intro x hx
  obtain ⟨j, hj⟩ := List.mem_iff_getElem?.1 hx
  simpa using hl j x hj
 rw [this]
 rfl
theorem Has.accAdLoad {W : World} {B : Nat} {x : Ac} {sv : Value} (h : Has W B 31 (acC x sv)) : (loadVar 25 ⟨B, 0, none⟩).run Tryz.prog W = .ok (.agg (adC x.at_)) W :=
 run_loadVar_at W ⟨B, 0, none⟩ _ (adL x.at_) _ (fun j v hj => by
  have hj20 : j < 20 := by
   have := (List.getElem?_eq_some_iff.1 hj).1
   rwa [adL_len] at this
  rw [adL_at _ j hj20] at hj
  rw [← hj]
  exact h.accAd j hj20) Tryz.underlying25 rfl (by rw [adL_len]; exact infoAd)
theorem find_any (W : World) (sv : Value) (l : List Ac) (hs : StAt W sv l) (t : Nat) (ht : t < 256 ^ 20) (hsl : ∀ x ∈ l, x.slots.length ≤ 100000) :
  Calls Tryz.prog 18 #[sv, .agg (adC t)] W fun e w' => ∃ sv', e = .returned (.agg (acC (findA l t) sv')) ∧ RowT w' W.heap.size sv' (findA l t).slots ∧ (∀ y ∈ (findA l t).slots, W256 y.1 ∧ W256 y.2) ∧ Below W.heap.size W w' := by
 have hB := Has.new W 25 (adC t)
 have hq0 := newA W (.cells (adC t) 25)
 obtain ⟨V, hV⟩ : ∃ V, W.alloc (.cells (adC t) 25) = V := ⟨_, rfl⟩
 rw [hV] at hB hq0
 obtain ⟨V2, hV2, hB2, hq2⟩ := newK0 V
 have B1 := hid (hB.later hq2)
 have B2 := hid hB2
 have HVW := hid hB.lt
 have Q0 := hid (hq0.trans (hq2.mono hq0.size))
 have HT := hid ht
 have HSL := hid hsl
 obtain ⟨a, cap, rfl, hnc, hcm⟩ := hs.shape
 have HS := hid ((hs.later hq0).later hq2)
 obtain ⟨n, hn⟩ : ∃ n, l.length = n := ⟨_, rfl⟩
 rw [hn] at HS hnc
 have HN := hid hn
 have hlc := hid (Nat.le_trans hnc hcm)
 rw [hn]
 clear hs hnc hcm hn hB hq0 hB2 hq2 ht hsl
 have HAD := hid (fun (X : World) (hX : Below V2.heap.size V2 X) => (B1.out.later hX).adLoad)
 have HEQ := hid (fun (x : Ac) (hx : AcOk x) (X : World) => eq20 x.at_ t hx.at_ HT.out X)
 generalize hct : adC t = ct at *
 replace hct := hid hct
 go_enter Tryz.func18, Tryz.ntmps18
 go_wp2_with fail
 clear hV hV2
 go_loopw [9] (fun i wr => ∃ k : Nat, k ≤ n ∧ i = .int .i64 (k : Int) ∧ (∀ (j : Nat) (x : Ac), j < k → l[j]? = some x → x.at_ ≠ t) ∧ Below V2.heap.size V2 wr) (fun i _ => n - (intOf i).toNat)
 case atStart => exact ⟨0, by omega, rfl, fun j x h => absurd h (by omega), Below.refl _ _⟩
 case round =>
  obtain ⟨k, hk, rfl, hlt, hq⟩ := hrel
  have HLT := hid hlt
  have HQ := hid hq
  clear hlt hq
  by_cases hkn : k < n
  ·have hknI : (k : Int) < (n : Int) := by omega
   have hk0 : (0 : Int) ≤ (k : Int) := by omega
   have hkb : (k : Int) ≤ 9223372036854775806 := by have := hlc.out; omega
   obtain ⟨x, hx⟩ : ∃ x, l[k]? = some x := ⟨_, List.getElem?_eq_getElem (by have := HN.out; omega)⟩
   obtain ⟨b, sx, rfl, ax⟩ := (HS.out.later HQ.out).at hx
   obtain ⟨a', cap', rfl, _, _⟩ := ax.slots.shape
   have hl1 := ax.load
   obtain ⟨V3, hV3, h42, hq3⟩ := newK0 wr
   obtain ⟨cz, hcz⟩ : ∃ cz, acC x (.slice a' x.slots.length cap') = cz := ⟨_, rfl⟩
   have hsz : cz.size = 27 := by rw [← hcz]; exact acC_size _ _
   have h5 : Has (V3.setRow wr.heap.size cz) wr.heap.size 31 cz := setRow_heap _ _ _ _ _ _ h42
   have Q5 := hid (below_rowAc hq3 (g := wr.heap.size) (Nat.le_refl _) cz)
   have hi5 : (Tryz.prog.info? 31).map (·.size) = some cz.size := by rw [hsz]; exact infoAc
   have ho5 : (#[.int .u8 0, .int .u8 0, .int .u8 0, .int .u8 0, .int .u8 0, .int .u8 0, .int .u8 0, .int .u8 0, .int .u8 0, .int .u8 0, .int .u8 0, .int .u8 0, .int .u8 0, .int .u8 0, .int .u8 0, .int .u8 0, .int .u8 0, .int .u8 0, .int .u8 0, .int .u8 0, .int .u64 0, .int .u64 0, .int .u64 0, .int .u64 0, .int .i64 0, .string { data := #[] }, .slice none 0 0] : Array Value).size = cz.size := by rw [hsz]; rfl
   have ha5 : cz.all (·.oneCell') = true := by rw [← hcz]; exact acC_one x (.slice a' x.slots.length cap') rfl
   rw [hcz] at hl1
   have ha6 := (show Has (V3.setRow wr.heap.size cz) wr.heap.size 31 (acC x (.slice a' x.slots.length cap')) by rw [hcz]; exact h5).accAdLoad
   have hl6 := (show Has (V3.setRow wr.heap.size cz) wr.heap.size 31 (acC x (.slice a' x.slots.length cap')) by rw [hcz]; exact h5).accLoad
   rw [hcz] at hl6
   obtain ⟨V5, hV5⟩ : ∃ V5, V3.setRow wr.heap.size cz = V5 := ⟨_, rfl⟩
   rw [hV5] at h5 Q5 ha6 hl6
   have ht6 := HAD.out _ (HQ.out.trans (Q5.out.mono HQ.out.size))
   have he6 := HEQ.out x (HS.out.ok hx)
   have KO := hid (own_any _ x _ (ax.slots.later Q5.out) (HSL.out x (List.mem_of_getElem? hx)))
   rw [hcz] at KO
   have HWS := hid ax.slots.wideAll
   have QQ := hid (HQ.out.trans (Q5.out.mono HQ.out.size))
   generalize adC x.at_ = cx at *
   have HX := hid (And.intro hx hkn)
   have HZ := hid hsz
   clear hx hkn hk ax h5 hq3 hsz hcz
   by_cases he : x.at_ = t
   ·rw [decide_eq_true he] at he6
    have HE := hid he
    clear he
    go_wp2_with (first | (refine wpList_load_known rfl _ (.tmp 11) rfl _ rfl _ hl1 ?_) | (refine wpList_load_known rfl _ (.tmp 13) rfl _ rfl _ ha6 ?_) | (refine wpList_load_known rfl _ (.tmp 3) rfl _ rfl _ ht6 ?_) | (refine wpList_load_known rfl _ (.tmp 6) rfl _ rfl _ hl6 ?_) | (refine wpList_store_row rfl _ (.tmp 6) (.tmp 12) rfl _ _ rfl rfl _ _ h42 hi5 ho5 ha5 ?_; rw [hV5]))
    refine KO.out.mono ?_
    rintro _ w6 ⟨sv', rfl, hrow, q6⟩
    obtain ⟨a2, c2, rfl⟩ := hrow.shape
    have HRW := hid hrow
    have Q6 := hid (QQ.out.trans (q6.mono QQ.out.size))
    have B6 := (B2.out.later QQ.out).later q6
    have hi7 : (Tryz.prog.info? 31).map (·.size) = some (acC x (.slice a2 x.slots.length c2)).size := by rw [acC_size]; exact infoAc
    have ho7 : (#[.int .u8 0, .int .u8 0, .int .u8 0, .int .u8 0, .int .u8 0, .int .u8 0, .int .u8 0, .int .u8 0, .int .u8 0, .int .u8 0, .int .u8 0, .int .u8 0, .int .u8 0, .int .u8 0, .int .u8 0, .int .u8 0, .int .u8 0, .int .u8 0, .int .u8 0, .int .u8 0, .int .u64 0, .int .u64 0, .int .u64 0, .int .u64 0, .int .i64 0, .string { data := #[] }, .slice none 0 0] : Array Value).size = (acC x (.slice a2 x.slots.length c2)).size := by rw [acC_size]; rfl
    have ha7 := acC_one x (.slice a2 x.slots.length c2) rfl
    have h7 : Has (w6.setRow V.heap.size (acC x (.slice a2 x.slots.length c2))) V.heap.size 31 (acC x (.slice a2 x.slots.length c2)) := setRow_heap _ _ _ _ _ _ B6
    have S7 := hid (hrow.rowAc B6 (acC x (.slice a2 x.slots.length c2)))
    have Q7 := hid ((Q0.out.trans (Q6.out.mono Q0.out.size)).trans (below_rowAc (Below.refl w6.heap.size w6 |>.mono (Nat.le_trans Q0.out.size Q6.out.size)) (g := V.heap.size) (by have := HVW.out; omega) (acC x (.slice a2 x.slots.length c2))))
    have HFA := hid (findA_hit HX.out.1 HE.out HLT.out)
    clear hl1 h42 hi5 ho5 ha5 ha6 hl6 ht6 he6 hV5 hrow q6
    go_wp2_with (refine wpList_store_row rfl _ (.tmp 4) (.tmp 18) rfl _ _ rfl rfl _ _ B6 hi7 ho7 ha7 ?_)
    try simp only [Exit.inBlock, Exit.then]
    refine bodyPost_ret (results_cell_row rfl _ _ V.heap.size 31 _ (0, 0) _ rfl h7 Tryz.underlying31 rfl hi7) rfl ?_
    rw [HFA.out]
    exact ⟨_, rfl, S7.out.lower (Nat.le_trans Q0.out.size QQ.out.size), HWS.out, Q7.out⟩
   ·rw [decide_eq_false he] at he6
    have HE := hid he
    clear he
    go_wp2_with (first | (refine wpList_load_known rfl _ (.tmp 11) rfl _ rfl _ hl1 ?_) | (refine wpList_load_known rfl _ (.tmp 13) rfl _ rfl _ ha6 ?_) | (refine wpList_load_known rfl _ (.tmp 3) rfl _ rfl _ ht6 ?_) | (refine wpList_load_known rfl _ (.tmp 6) rfl _ rfl _ hl6 ?_) | (refine wpList_store_row rfl _ (.tmp 6) (.tmp 12) rfl _ _ rfl rfl _ _ h42 hi5 ho5 ha5 ?_; rw [hV5]))
    go_roundw
    case rel => exact ⟨k + 1, by have := HX.out.2; omega, by simp, fun j y hj hy => by
     by_cases hjk : j < k
     ·exact HLT.out j y hjk hy
     ·obtain rfl : j = k := by omega
      rw [HX.out.1] at hy
      injection hy with hy
      subst hy
      exact HE.out, QQ.out⟩
    case measure => have := HX.out.2; simp [intOf]; omega
  ·obtain rfl : k = n := by omega
   have hkk : ¬ (k : Int) < (k : Int) := by omega
   have HFA := hid (show findA l t = ⟨t, 0, 0, ⟨#[]⟩, []⟩ from findA_none (fun j y hy => HLT.out j y (by have := (List.getElem?_eq_some_iff.1 hy).1; have := HN.out; omega) hy))
   have ht8 := HAD.out _ HQ.out
   have hlit : ct = #[.int .u8 ((adB t 0 : Nat) : Int), .int .u8 ((adB t 1 : Nat) : Int), .int .u8 ((adB t 2 : Nat) : Int), .int .u8 ((adB t 3 : Nat) : Int), .int .u8 ((adB t 4 : Nat) : Int), .int .u8 ((adB t 5 : Nat) : Int), .int .u8 ((adB t 6 : Nat) : Int), .int .u8 ((adB t 7 : Nat) : Int), .int .u8 ((adB t 8 : Nat) : Int), .int .u8 ((adB t 9 : Nat) : Int), .int .u8 ((adB t 10 : Nat) : Int), .int .u8 ((adB t 11 : Nat) : Int), .int .u8 ((adB t 12 : Nat) : Int), .int .u8 ((adB t 13 : Nat) : Int), .int .u8 ((adB t 14 : Nat) : Int), .int .u8 ((adB t 15 : Nat) : Int), .int .u8 ((adB t 16 : Nat) : Int), .int .u8 ((adB t 17 : Nat) : Int), .int .u8 ((adB t 18 : Nat) : Int), .int .u8 ((adB t 19 : Nat) : Int)] := by rw [← hct.out]; rfl
   obtain ⟨b0, e0⟩ : ∃ b, ((adB t 0 : Nat) : Int) = b := ⟨_, rfl⟩
   rw [e0] at hlit
   replace e0 := hid e0
   obtain ⟨b1, e1⟩ : ∃ b, ((adB t 1 : Nat) : Int) = b := ⟨_, rfl⟩
   rw [e1] at hlit
   replace e1 := hid e1
   obtain ⟨b2, e2⟩ : ∃ b, ((adB t 2 : Nat) : Int) = b := ⟨_, rfl⟩
   rw [e2] at hlit
   replace e2 := hid e2
   obtain ⟨b3, e3⟩ : ∃ b, ((adB t 3 : Nat) : Int) = b := ⟨_, rfl⟩
   rw [e3] at hlit
   replace e3 := hid e3
   obtain ⟨b4, e4⟩ : ∃ b, ((adB t 4 : Nat) : Int) = b := ⟨_, rfl⟩
   rw [e4] at hlit
   replace e4 := hid e4
   obtain ⟨b5, e5⟩ : ∃ b, ((adB t 5 : Nat) : Int) = b := ⟨_, rfl⟩
   rw [e5] at hlit
   replace e5 := hid e5
   obtain ⟨b6, e6⟩ : ∃ b, ((adB t 6 : Nat) : Int) = b := ⟨_, rfl⟩
   rw [e6] at hlit
   replace e6 := hid e6
   obtain ⟨b7, e7⟩ : ∃ b, ((adB t 7 : Nat) : Int) = b := ⟨_, rfl⟩
   rw [e7] at hlit
   replace e7 := hid e7
   obtain ⟨b8, e8⟩ : ∃ b, ((adB t 8 : Nat) : Int) = b := ⟨_, rfl⟩
   rw [e8] at hlit
   replace e8 := hid e8
   obtain ⟨b9, e9⟩ : ∃ b, ((adB t 9 : Nat) : Int) = b := ⟨_, rfl⟩
   rw [e9] at hlit
   replace e9 := hid e9
   obtain ⟨b10, e10⟩ : ∃ b, ((adB t 10 : Nat) : Int) = b := ⟨_, rfl⟩
   rw [e10] at hlit
   replace e10 := hid e10
   obtain ⟨b11, e11⟩ : ∃ b, ((adB t 11 : Nat) : Int) = b := ⟨_, rfl⟩
   rw [e11] at hlit
   replace e11 := hid e11
   obtain ⟨b12, e12⟩ : ∃ b, ((adB t 12 : Nat) : Int) = b := ⟨_, rfl⟩
   rw [e12] at hlit
   replace e12 := hid e12
   obtain ⟨b13, e13⟩ : ∃ b, ((adB t 13 : Nat) : Int) = b := ⟨_, rfl⟩
   rw [e13] at hlit
   replace e13 := hid e13
   obtain ⟨b14, e14⟩ : ∃ b, ((adB t 14 : Nat) : Int) = b := ⟨_, rfl⟩
   rw [e14] at hlit
   replace e14 := hid e14
   obtain ⟨b15, e15⟩ : ∃ b, ((adB t 15 : Nat) : Int) = b := ⟨_, rfl⟩
   rw [e15] at hlit
   replace e15 := hid e15
   obtain ⟨b16, e16⟩ : ∃ b, ((adB t 16 : Nat) : Int) = b := ⟨_, rfl⟩
   rw [e16] at hlit
   replace e16 := hid e16
   obtain ⟨b17, e17⟩ : ∃ b, ((adB t 17 : Nat) : Int) = b := ⟨_, rfl⟩
   rw [e17] at hlit
   replace e17 := hid e17
   obtain ⟨b18, e18⟩ : ∃ b, ((adB t 18 : Nat) : Int) = b := ⟨_, rfl⟩
   rw [e18] at hlit
   replace e18 := hid e18
   obtain ⟨b19, e19⟩ : ∃ b, ((adB t 19 : Nat) : Int) = b := ⟨_, rfl⟩
   rw [e19] at hlit
   replace e19 := hid e19
   rw [hlit] at ht8
   have hcz : (acC ⟨t, 0, 0, ⟨#[]⟩, []⟩ (.slice none 0 0)) = #[.int .u8 b0, .int .u8 b1, .int .u8 b2, .int .u8 b3, .int .u8 b4, .int .u8 b5, .int .u8 b6, .int .u8 b7, .int .u8 b8, .int .u8 b9, .int .u8 b10, .int .u8 b11, .int .u8 b12, .int .u8 b13, .int .u8 b14, .int .u8 b15, .int .u8 b16, .int .u8 b17, .int .u8 b18, .int .u8 b19, .int .u64 0, .int .u64 0, .int .u64 0, .int .u64 0, .int .i64 0, .string { data := #[] }, .slice none 0 0] := by rw [← e0.out, ← e1.out, ← e2.out, ← e3.out, ← e4.out, ← e5.out, ← e6.out, ← e7.out, ← e8.out, ← e9.out, ← e10.out, ← e11.out, ← e12.out, ← e13.out, ← e14.out, ← e15.out, ← e16.out, ← e17.out, ← e18.out, ← e19.out]; unfold acC acL; simp only [lim_zero]; rfl
   have B6 := B2.out.later HQ.out
   have hi7 : (Tryz.prog.info? 31).map (·.size) = some (#[.int .u8 b0, .int .u8 b1, .int .u8 b2, .int .u8 b3, .int .u8 b4, .int .u8 b5, .int .u8 b6, .int .u8 b7, .int .u8 b8, .int .u8 b9, .int .u8 b10, .int .u8 b11, .int .u8 b12, .int .u8 b13, .int .u8 b14, .int .u8 b15, .int .u8 b16, .int .u8 b17, .int .u8 b18, .int .u8 b19, .int .u64 0, .int .u64 0, .int .u64 0, .int .u64 0, .int .i64 0, .string { data := #[] }, .slice none 0 0] : Array Value).size := infoAc
   have ho7 : (#[.int .u8 0, .int .u8 0, .int .u8 0, .int .u8 0, .int .u8 0, .int .u8 0, .int .u8 0, .int .u8 0, .int .u8 0, .int .u8 0, .int .u8 0, .int .u8 0, .int .u8 0, .int .u8 0, .int .u8 0, .int .u8 0, .int .u8 0, .int .u8 0, .int .u8 0, .int .u8 0, .int .u64 0, .int .u64 0, .int .u64 0, .int .u64 0, .int .i64 0, .string { data := #[] }, .slice none 0 0] : Array Value).size = (#[.int .u8 b0, .int .u8 b1, .int .u8 b2, .int .u8 b3, .int .u8 b4, .int .u8 b5, .int .u8 b6, .int .u8 b7, .int .u8 b8, .int .u8 b9, .int .u8 b10, .int .u8 b11, .int .u8 b12, .int .u8 b13, .int .u8 b14, .int .u8 b15, .int .u8 b16, .int .u8 b17, .int .u8 b18, .int .u8 b19, .int .u64 0, .int .u64 0, .int .u64 0, .int .u64 0, .int .i64 0, .string { data := #[] }, .slice none 0 0] : Array Value).size := rfl
   have ha7 : (#[.int .u8 b0, .int .u8 b1, .int .u8 b2, .int .u8 b3, .int .u8 b4, .int .u8 b5, .int .u8 b6, .int .u8 b7, .int .u8 b8, .int .u8 b9, .int .u8 b10, .int .u8 b11, .int .u8 b12, .int .u8 b13, .int .u8 b14, .int .u8 b15, .int .u8 b16, .int .u8 b17, .int .u8 b18, .int .u8 b19, .int .u64 0, .int .u64 0, .int .u64 0, .int .u64 0, .int .i64 0, .string { data := #[] }, .slice none 0 0] : Array Value).all (·.oneCell') = true := by rw [← hcz]; exact acC_one _ _ rfl
   have h7 : Has (wr.setRow V.heap.size #[.int .u8 b0, .int .u8 b1, .int .u8 b2, .int .u8 b3, .int .u8 b4, .int .u8 b5, .int .u8 b6, .int .u8 b7, .int .u8 b8, .int .u8 b9, .int .u8 b10, .int .u8 b11, .int .u8 b12, .int .u8 b13, .int .u8 b14, .int .u8 b15, .int .u8 b16, .int .u8 b17, .int .u8 b18, .int .u8 b19, .int .u64 0, .int .u64 0, .int .u64 0, .int .u64 0, .int .i64 0, .string { data := #[] }, .slice none 0 0]) V.heap.size 31 #[.int .u8 b0, .int .u8 b1, .int .u8 b2, .int .u8 b3, .int .u8 b4, .int .u8 b5, .int .u8 b6, .int .u8 b7, .int .u8 b8, .int .u8 b9, .int .u8 b10, .int .u8 b11, .int .u8 b12, .int .u8 b13, .int .u8 b14, .int .u8 b15, .int .u8 b16, .int .u8 b17, .int .u8 b18, .int .u8 b19, .int .u64 0, .int .u64 0, .int .u64 0, .int .u64 0, .int .i64 0, .string { data := #[] }, .slice none 0 0] := setRow_heap _ _ _ _ _ _ B6
   have Q7 := hid ((Q0.out.trans (HQ.out.mono Q0.out.size)).trans (below_rowAc (Below.refl wr.heap.size wr |>.mono (Nat.le_trans Q0.out.size HQ.out.size)) (g := V.heap.size) (by have := HVW.out; omega) #[.int .u8 b0, .int .u8 b1, .int .u8 b2, .int .u8 b3, .int .u8 b4, .int .u8 b5, .int .u8 b6, .int .u8 b7, .int .u8 b8, .int .u8 b9, .int .u8 b10, .int .u8 b11, .int .u8 b12, .int .u8 b13, .int .u8 b14, .int .u8 b15, .int .u8 b16, .int .u8 b17, .int .u8 b18, .int .u8 b19, .int .u64 0, .int .u64 0, .int .u64 0, .int .u64 0, .int .i64 0, .string { data := #[] }, .slice none 0 0]))
   replace hcz := hid hcz
   clear hlit
   go_wp2_with (first | (refine wpList_load_known rfl _ (.tmp 3) rfl _ rfl _ ht8 ?_) | (refine wpList_store_row rfl _ (.tmp 4) (.tmp 21) rfl _ _ rfl rfl _ _ B6 hi7 ho7 ha7 ?_))
   try simp only [Exit.inBlock, Exit.then]
   refine bodyPost_ret (results_cell_row rfl _ _ V.heap.size 31 _ (0, 0) _ rfl h7 Tryz.underlying31 rfl hi7) rfl ?_
   rw [HFA.out]
   exact ⟨.slice none 0 0, by rw [hcz.out], World.ownsRow_nil _ _ _ _, (by simp), Q7.out⟩
end Go.Proofs.YtkicmbdjihjgfaaGreatDoor
