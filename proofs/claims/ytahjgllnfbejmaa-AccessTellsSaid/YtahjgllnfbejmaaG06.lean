/- Part. -/
import Derived.Lib.AppendZerosOnto
import Derived.Test.YtahjgllnfbejmaaG05
set_option maxRecDepth 100000
set_option maxHeartbeats 16000000
namespace Go.Proofs.Ytahjgllnfbejmaa
section
open Go Go.RowKit
attribute [local go_sem] Oper.semAt_some Grows wide_fn
theorem KRow.nil (W : World) (base : Nat) : KRow W base (.slice none 0 0) [] := World.ownsRow_nil _ _ _ _
theorem KRow.shapeK {W : World} {base : Nat} {v : Value} {l : List Ky} (h : KRow W base v l) : ∃ a cap, v = .slice a l.length cap := by
 rcases h.2 with ⟨rfl, h0⟩ | ⟨g, cap, cur, rfl, _⟩
 ·exact ⟨none, 0, by rw [h0]⟩
 ·exact ⟨_, _, rfl⟩
theorem KRow.blockK {W : World} {base : Nat} {v : Value} {l : List Ky} (h : KRow W base v l) {b : Nat} (hb : v.ownBlock = some b) : base ≤ b ∧ ∃ cs, W.heap[b]? = some (.cells cs 31 (0, 0)) := by
 rcases h.2 with ⟨rfl, h0⟩ | ⟨g, cap, cur, rfl, hbg, hg', _⟩
 ·cases hb
 ·injection hb with hb
  subst hb
  exact ⟨hbg, cur, hg'⟩
theorem flatKy_append (a b : List Ky) : flatKy (a ++ b) = flatKy a ++ flatKy b := by simp [flatKy]
theorem infoKz_of : ∃ i z, Try.prog.info? 31 = some i ∧ i.zero = some z ∧ z.cells.size = 25 ∧ i.size = 25 ∧ i.bytes = 56 := by
 obtain ⟨i, h1, h2, h3, h4⟩ := infoK_of
 exact ⟨i, _, h1, h2, rfl, h3, h4⟩
theorem append_keys (A : World) (base : Nat) (v : Value) (ps : List Ky) (h : KRow A base v ps) (hb : base ≤ A.heap.size) (sv : Value) (qs : List Ky) (hq : KeysAt A sv qs) (hl : ps.length + qs.length ≤ 100000) :
  ∃ v' w', (Builtin.append_ #[22, 22] 22 #[v, sv]).run Try.prog A = .ok v' w' ∧ KRow w' base v' (ps ++ qs) ∧ A.grownBy w' v.ownBlock ∧ Below base A w' := by
 obtain ⟨i, z, hi, hz, hzs, hsize, hby⟩ := infoKz_of
 have bel : ∀ w', A.grownBy w' v.ownBlock → Below base A w' := fun w' hgr => ⟨hgr.os, hgr.tape, hgr.output, hgr.size, fun k hk => hgr.block k (by omega) (fun e => by have := (h.blockK e.symm).1; omega)⟩
 obtain ⟨a, cap, rfl, h2, h3, _, h5⟩ := hq
 cases qs with
 | nil =>
  obtain ⟨av, cv, rfl⟩ := h.shapeK
  have hr := run_append_nothing (P := Try.prog) A 22 22 22 31 i Try.underlying22 hi av ps.length cv (by
   rcases h.2 with ⟨e, h0⟩ | ⟨g, cap, cur, e, hbg, hg', hnc, _⟩
   ·injection e with _ _ e; omega
   ·injection e with _ _ e; subst e; exact hnc) (.slice a 0 cap) (by
   cases a with
   | none => exact Src.ofNil _ Try.underlying22 cap
   | some b => exact Src.ofSlice _ Try.underlying22 b 0 cap [] (by simp) (fun j u hj => by simp at hj) (fun u hu => by cases hu))
  refine ⟨_, _, hr, by rw [List.append_nil]; exact h, ⟨rfl, rfl, rfl, Nat.le_refl _, fun _ _ _ => rfl⟩, Below.refl _ _⟩
 | cons q r =>
  obtain ⟨b, rfl, _⟩ := h5 0 q rfl
  obtain ⟨v', w', hr, hown, hgr, hnb⟩ := run_append_src (P := Try.prog) A base 22 22 22 31 i z 25 56 Try.underlying22 hi hz hsize hby hzs (by decide) v ps.length (flatKy ps) h (.slice (some b) (q :: r).length cap) (q :: r).length (by simp) (flatKy (q :: r)) (by
   rw [hsize]
   refine Src.ofSlice _ Try.underlying22 b _ cap _ (flatKy_length _) (fun j u hj => ?_) (fun u hu => ?_)
   ·have hj8 : j < (q :: r).length * 25 := by
     have := (List.getElem?_eq_some_iff.1 hj).1
     rwa [flatKy_length] at this
    obtain ⟨y, hy⟩ : ∃ y, (q :: r)[j / 25]? = some y := ⟨_, List.getElem?_eq_getElem (by omega)⟩
    obtain ⟨b', hb', hc⟩ := h5 (j / 25) y hy
    injection hb' with hb'
    subst hb'
    have hf := flatKy_at (q :: r) (j / 25) y (j % 25) hy (by omega)
    rw [show j / 25 * 25 + j % 25 = j by omega, hj] at hf
    have h8 := hc (j % 25) u hf.symm
    rwa [Addr.add_add, show j / 25 * 25 + j % 25 = j by omega] at h8
   ·obtain ⟨y, hy, hu'⟩ := List.mem_flatMap.1 hu
    exact kyL_one y u hu') (by omega) (by unfold maxLen; omega) hb
  refine ⟨v', w', hr, ?_, hgr, bel w' hgr⟩
  unfold KRow
  rw [flatKy_append, List.length_append]
  exact hown
theorem grow_keys (W : World) (n : Nat) (hn : n ≤ 100000) :
  Calls Try.prog 55 #[.slice none 0 0, .int .i64 (n : Int)] W fun e w' => ∃ v', e = .returned v' ∧ KRow w' W.heap.size v' [] ∧ Below W.heap.size W w' := by
 have hnI : (n : Int) ≤ 100000 := by omega
 have hn0 : ¬ ((n : Int) < 0) := by omega
 by_cases h0 : n = 0
 ·subst h0
  go_enter Try.func55, Try.ntmps55
  go_wp2_with fail
  go_ret
  exact ⟨_, rfl, KRow.nil _ _, Below.refl _ _⟩
 ·have h4 : (n : Int) > 0 := by omega
  obtain ⟨i, z, hi, hz, hzs, hsz, hby⟩ := infoKz_of
  have h := Lib.run_append_grow_zeros (P := Try.prog) W 22 3 22 31 i z .i64 .i64 Try.underlying22 Try.underlying3 hi hz none 0 0 [] (run_firstCells_none W.drew i.size 0 0 0) n (by omega) (by omega) (by omega) (by omega) (by rw [hby]; omega) (by rw [Nat.zero_add]; exact growslice_fits (by omega) (by rw [hby]; omega))
  simp only [Nat.zero_add] at h
  have hge : n ≤ grownCap W n 0 31 := grownCap_ge W n 0 _
  have hcm : grownCap W n 0 31 ≤ maxLen := grownCap_le_maxLen W n 0 _ (by unfold maxLen; omega)
  generalize grownCap W n 0 31 = G at *
  obtain ⟨cs, hcs⟩ : ∃ cs : Array Value, #[] ++ Builtin.zeroCells z.cells n ++ Builtin.zeroCells z.cells (G - n) = cs := ⟨_, rfl⟩
  have hcz : cs.size = G * 25 := by
   rw [← hcs]
   simp only [Array.size_append, size_zeroCells, hzs]
   simp
   omega
  rw [show ([] : List Value).toArray = #[] from rfl, hcs] at h
  have hq0 := newA W (.cells cs 31)
  have hrow := hid (show KRow (W.drew.alloc (.cells cs 31)) W.heap.size (.slice (some ⟨W.heap.size, 0, none⟩) 0 G) [] from World.ownsRow_made (base := W.heap.size) (e := 31) (size := 25) W.drew cs G (Nat.le_refl _) hcm hcz)
  have HB := hid (show Below W.heap.size W (W.drew.alloc (.cells cs 31)) from ⟨rfl, rfl, rfl, by simp, fun k hk => Below.heap_alloc W.drew _ k hk⟩)
  have hG63 : (G : Int) ≤ 9223372036854775807 := by unfold maxLen at hcm; omega
  have hG0 : (0 : Int) ≤ (G : Int) := by omega
  clear hi hz hzs hsz hby hcs hcz hq0 hge hcm h0
  go_enter Try.func55, Try.ntmps55
  go_wp2_with (at_builtin; refine Lib.wpList_append_run _ rfl _ _ _ _ rfl _ _ rfl rfl _ _ h ?_)
  go_ret
  exact ⟨_, rfl, hrow.out, HB.out⟩
def sumK (vs : List (Value × List Ky)) : Nat := (vs.map (·.2.length)).sum
def catK (vs : List (Value × List Ky)) : List Ky := vs.flatMap (·.2)
theorem catK_len : ∀ (vs : List (Value × List Ky)), (catK vs).length = sumK vs
 | [] => rfl
 | x :: l => by
  have := catK_len l
  simp only [catK, sumK, List.flatMap_cons, List.length_append, List.map_cons, List.sum_cons] at this ⊢
  omega
theorem sumK_take (vs : List (Value × List Ky)) (k : Nat) (q : Value × List Ky) (h : vs[k]? = some q) : sumK (vs.take (k + 1)) = sumK (vs.take k) + q.2.length := by
 unfold sumK
 rw [List.take_add_one, h, List.map_append, List.sum_append]
 simp
theorem catK_take (vs : List (Value × List Ky)) (k : Nat) (q : Value × List Ky) (h : vs[k]? = some q) : catK (vs.take (k + 1)) = catK (vs.take k) ++ q.2 := by
 unfold catK
 rw [List.take_add_one, h, List.flatMap_append]
 simp
theorem sumK_le (vs : List (Value × List Ky)) (k : Nat) : sumK (vs.take k) ≤ sumK vs := by
 have e : sumK vs = sumK (vs.take k) + sumK (vs.drop k) := by
  conv => lhs; rw [← List.take_append_drop k vs]
  unfold sumK
  rw [List.map_append, List.sum_append]
 omega
theorem kconcat_any (W : World) (B : Nat) (vs : List (Value × List Ky)) (hv : ∀ (i : Nat) (q : Value × List Ky), vs[i]? = some q → W.cell? ⟨B, i, none⟩ = some q.1 ∧ KeysAt W q.1 q.2) (hn : vs.length ≤ 1000) (hs : sumK vs ≤ 100000) :
  Calls Try.prog 37 #[.slice (some ⟨B, 0, none⟩) vs.length vs.length] W fun e w' => ∃ v', e = .returned v' ∧ KRow w' W.heap.size v' (catK vs) ∧ Below W.heap.size W w' := by
 have HV := hid hv
 have HSS := hid hs
 have HTK := hid (sumK_le vs)
 obtain ⟨n, hnn⟩ : ∃ n, vs.length = n := ⟨_, rfl⟩
 rw [hnn] at hn ⊢
 have HN := hid hnn
 have HL := hid hn
 clear hv hs hnn hn
 go_enter Try.func37, Try.ntmps37
 go_wp2_with fail
 go_loopw [11, 3] (fun i s wr => ∃ k : Nat, k ≤ n ∧ i = .int .i64 (k : Int) ∧ s = .int .i64 ((sumK (vs.take k) : Nat) : Int) ∧ wr = W) (fun i _ _ => n - (intOf i).toNat)
 case atStart => exact ⟨0, by omega, rfl, rfl, rfl⟩
 case round =>
  obtain ⟨k, hk, rfl, rfl, hw⟩ := hrel
  obtain rfl : W = wr := hw.symm
  clear hw
  have hlk : (sumK (vs.take k) : Int) ≤ 100000 := by have := HTK.out k; have := HSS.out; omega
  have hs0 : (0 : Int) ≤ ((sumK (vs.take k) : Nat) : Int) := by omega
  by_cases hkn : k < n
  ·have hknI : (k : Int) < (n : Int) := by omega
   have hk0 : (0 : Int) ≤ (k : Int) := by omega
   have hkb : (k : Int) ≤ 1000 := by have := HL.out; omega
   obtain ⟨q, hq⟩ : ∃ q, vs[k]? = some q := ⟨_, List.getElem?_eq_getElem (by have := HN.out; omega)⟩
   obtain ⟨c, hr⟩ := HV.out k q hq
   obtain ⟨a, cap, hqv, hnc, hcm, _, _⟩ := hr
   rw [hqv] at c
   have HT := hid (sumK_take vs k q hq)
   have hl2 : ((sumK (vs.take k) : Nat) : Int) + (q.2.length : Int) ≤ 100000 := by have := HTK.out (k + 1); have := HSS.out; have := HT.out; omega
   have hl0 : ¬ ((sumK (vs.take k) : Nat) : Int) + (q.2.length : Int) < 0 := by omega
   have ha : (⟨B, 0, none⟩ : Addr).add k = ⟨B, k, none⟩ := by unfold Addr.add; split <;> simp_all
   have HK := hid hkn
   clear hkn hq hnc hcm hk
   generalize hsum : sumK (vs.take k) = sm at *
   clear hsum
   go_wp2_with fail
   go_roundw
   case rel => exact ⟨k + 1, by have := HK.out; omega, by simp, by rw [HT.out]; simp, by first | trivial | rfl⟩
   case measure => have := HK.out; simp [intOf]; omega
  ·obtain rfl : k = n := by omega
   have hkk : ¬ (k : Int) < (k : Int) := by omega
   have HE := hid (show vs.take k = vs by rw [← HN.out, List.take_length])
   have hG := hid (grow_keys W (sumK (vs.take k)) (by have := HTK.out k; have := HSS.out; omega))
   generalize hsum : sumK (vs.take k) = sm at *
   clear hsum
   go_wp2_with fail
   refine hG.out.mono ?_
   rintro _ w1 ⟨v1, rfl, hrow, q1⟩
   have R1 := hid hrow
   have Q1 := hid q1
   clear hrow q1 hG
   go_wp2_with fail
   go_loopw [27, 6] (fun i v wx => ∃ (m : Nat), m ≤ k ∧ i = .int .i64 (m : Int) ∧ KRow wx W.heap.size v (catK (vs.take m)) ∧ Below W.heap.size W wx) (fun i _ _ => k - (intOf i).toNat)
   case atStart => exact ⟨0, by omega, rfl, R1.out, Q1.out⟩
   case round =>
    obtain ⟨m, hm, rfl, hrow, hq⟩ := hrel
    have RO := hid hrow
    have HQ := hid hq
    clear hrow hq
    by_cases hmk : m < k
    ·have hmI : (m : Int) < (k : Int) := by omega
     have hm0 : (0 : Int) ≤ (m : Int) := by omega
     have hmb : (m : Int) ≤ 1000 := by have := HL.out; omega
     obtain ⟨q, hq⟩ : ∃ q, vs[m]? = some q := ⟨_, List.getElem?_eq_getElem (by have := HN.out; omega)⟩
     obtain ⟨c, hr⟩ := HV.out m q hq
     have c' := cell_below HQ.out _ _ c
     have ha : (⟨B, 0, none⟩ : Addr).add m = ⟨B, m, none⟩ := by unfold Addr.add; split <;> simp_all
     have HT := hid (catK_take vs m q hq)
     have hlen : (catK (vs.take m)).length + q.2.length ≤ 100000 := by
      have e := congrArg List.length HT.out
      rw [catK_len, List.length_append] at e
      have := HTK.out (m + 1)
      have := HSS.out
      omega
     obtain ⟨v', w', happ, hrow', _, hbel⟩ := append_keys _ W.heap.size u6 _ RO.out HQ.out.size q.1 q.2 (hr.later HQ.out) hlen
     have R2 := hid hrow'
     have Q2 := hid (HQ.out.trans hbel)
     have HK := hid hmk
     generalize q.1 = qv at *
     clear hmk hq hr hlen hrow' hbel c hm
     go_wp2_with (at_builtin; refine wpList_append_runK rfl (.tmp 31) (.tmp 32) 22 rfl _ _ _ rfl rfl happ ?_)
     go_roundw
     case rel => exact ⟨m + 1, by have := HK.out; omega, by simp, by rw [HT.out]; exact R2.out, Q2.out⟩
     case measure => have := HK.out; simp [intOf]; omega
    ·obtain rfl : m = k := by omega
     have hmm : ¬ (m : Int) < (m : Int) := by omega
     have RF := hid (show KRow wr W.heap.size u6 (catK vs) by have := RO.out; rwa [HE.out] at this)
     go_wp2_with fail
     go_ret
     exact ⟨_, rfl, RF.out, HQ.out⟩
theorem set_keys (W : World) (sv : Value) (l : List Ky) (hs : KeysAt W sv l) (hl : l.length ≤ 100000) :
  Calls Try.prog 28 #[sv, .func (.func 8) #[] #[]] W fun e w' => ∃ v', e = .returned v' ∧ KeysAt w' v' (setL l) ∧ Below W.heap.size W w' := by
 have hB := Has.new W 37 #[.func (.func 8) #[] #[]]
 have hq0 := newA W (.cells #[.func (.func 8) #[] #[]] 37)
 have hsz : (W.alloc (.cells #[.func (.func 8) #[] #[]] 37)).heap.size = W.heap.size + 1 := by simp
 obtain ⟨V, hV⟩ : ∃ V, W.alloc (.cells #[.func (.func 8) #[] #[]] 37) = V := ⟨_, rfl⟩
 rw [hV] at hB hq0 hsz
 have Q := hid hq0
 have HB := hid hB
 have HSZ := hid hsz
 have HOK := hid hs.all
 have HC := hid (clone_keys V sv l (hs.later hq0) hl)
 obtain ⟨a, cap, rfl, _, _⟩ := hs.shape
 have HLL := hid hl
 clear hs hq0 hB hsz hl
 generalize hn : l.length = n at HC ⊢
 clear hn
 go_enter Try.func28, Try.ntmps28
 go_wp2_with fail
 refine HC.out.mono ?_
 rintro _ w1 ⟨v1, rfl, hrow, hb1⟩
 have R1 := hid hrow
 have Q1 := hid hb1
 have HS1 := hid (sort_keys w1 V.heap.size v1 l hrow HOK.out HLL.out hb1.size)
 obtain ⟨a1, c1, rfl⟩ := hrow.shapeK
 have c0 := (HB.out.later hb1).cell 0 _ rfl
 have hn1 : l.length = l.length := rfl
 generalize hn : l.length = n1 at HS1 ⊢
 clear hrow hb1 HC hn1
 go_wp2_with fail
 refine HS1.out.mono ?_
 rintro _ w2 ⟨rfl, l2, hrow2, hp, hso, hb2⟩
 have Q2 := hid ((Q1.out.mono (Nat.le_refl _)).trans hb2)
 have hB2 := HB.out.below Q2.out HB.out.lt
 have HK := hid (compact_keys w2 V.heap.size (.slice a1 n1 c1) l2 hrow2 (fun x hx => HOK.out x (hp.mem_iff.1 hx)) hso (by rw [hp.length_eq]; exact HLL.out) Q2.out.size W.heap.size (by have := HSZ.out; omega) hB2)
 have HP := hid hp
 clear hrow2 hp hso hb2 hB2 hn HS1
 go_wp2_with fail
 refine HK.out.mono ?_
 rintro _ w3 ⟨v3, s, rfl, hk3, hu3, hm3, hb3⟩
 have HF := hid (show KeysAt w3 v3 (setL l) from by
  rw [← setL_eq hu3 (fun x => (hm3 x).trans HP.out.mem_iff)]
  exact hk3)
 have QF := hid (Q.out.trans ((Q2.out.trans hb3).mono Q.out.size))
 obtain ⟨a3, c3, hv3, _⟩ := hk3
 subst hv3
 clear hu3 hm3 hb3
 go_wp2_with fail
 go_ret
 exact ⟨_, rfl, HF.out, QF.out⟩
theorem results_setsB {fn : Func} {t u : Tmp} {tmps : Array Value} {W : World} {B : Nat} {x y : Value} (h : fn.results = #[ResultVar.cell t 24, ResultVar.tmp u]) (ht : tmps.getD t undef = .pointer (some ⟨B, 0, none⟩)) (hA : Has W B 24 #[x, y]) :
  (results fn tmps).run Try.prog W = .ok (.tuple #[.agg #[x, y], tmps.getD u undef]) W := by
 have e0 := hA.cell 0 _ rfl
 have e1 := hA.cell 1 _ rfl
 simp at ht
 simp [results, h, ht, go_sem, e0, e1]
theorem results_sets {fn : Func} {t : Tmp} {tmps : Array Value} {W : World} {B : Nat} {x y : Value} (h : fn.results = #[ResultVar.cell t 24]) (ht : tmps.getD t undef = .pointer (some ⟨B, 0, none⟩)) (hA : Has W B 24 #[x, y]) :
  (results fn tmps).run Try.prog W = .ok (.agg #[x, y]) W := by
 have e0 := hA.cell 0 _ rfl
 have e1 := hA.cell 1 _ rfl
 simp at ht
 simp [results, h, ht, go_sem, e0, e1]
theorem KeysAt.away {W : World} {v : Value} {l : List Ky} (h : KeysAt W v l) {B : Nat} {t : TypeId} {a b : Option Addr} {n c m d : Nat} (hB : Has W B t #[.slice a n c, .slice b m d]) (k : Nat) (u : Value) : KeysAt (W.setCell ⟨B, k, none⟩ u) v l := by
 obtain ⟨a', cap, h1, h2, h3, h4, h5⟩ := h
 refine ⟨a', cap, h1, h2, h3, h4, fun i x hx => ?_⟩
 obtain ⟨p, e, hc⟩ := h5 i x hx
 refine ⟨p, e, fun j y hj => ?_⟩
 have h6 := hc j y hj
 generalize (p.add (i * 25)).add j = q at *
 by_cases hq : q.block = B
 ·exfalso
  have hy := List.mem_of_getElem? hj
  have hcl : W.heap[B]? = some (.cells #[.slice a n c, .slice b m d] t (0, 0)) := hB
  unfold World.cell? at h6
  rw [hq, hcl] at h6
  have hm : y = .slice a n c ∨ y = .slice b m d := by
   have h7 : q.spot = none ∧ [Value.slice a n c, .slice b m d][q.off]? = some y := by simpa using h6
   have := List.mem_of_getElem? h7.2
   simpa using this
  unfold kyL adL at hy
  rcases List.mem_append.1 hy with hy | hy
  ·obtain ⟨i, _, rfl⟩ := List.mem_map.1 hy
   rcases hm with hm | hm <;> cases hm
  ·simp only [List.mem_cons, List.not_mem_nil, or_false] at hy
   rcases hy with rfl | rfl | rfl | rfl | rfl <;> rcases hm with hm | hm <;> cases hm
 ·exact (World.cell?_of_block (Below.heap_setCell W ⟨B, k, none⟩ u q.block hq)).trans h6
structure SetsP (W : World) (r s : List Ky) (c : Nat) (e : Ending) (w' : World) : Prop where
 ex : ∃ x y, e = .returned (.tuple #[.agg #[x, y], .int .i64 (c : Int)]) ∧ KeysAt w' x r ∧ KeysAt w' y s ∧ Below W.heap.size W w'
theorem make_any (W : World) (rv sv : Value) (r s : List Ky) (hr : KeysAt W rv r) (hs : KeysAt W sv s) (hlr : r.length ≤ 100000) (hls : s.length ≤ 100000) :
  Calls Try.prog 11 #[rv, sv] W (SetsP W (makeM r s).1 (makeM r s).2.1 (makeM r s).2.2) := by
 obtain ⟨V, hV, hB, hq0⟩ := newBox W 24 #[.slice none 0 0, .slice none 0 0]
 have HR := hid hr
 have HS := hid hs
 have Q := hid hq0
 have HB := hid hB
 have C1 := hid (kcontf_any V rv r (hr.later hq0))
 have C2 := hid (fun (X : World) (hX : Below V.heap.size V X) => kcontf_any X sv s (hs.later (hq0.trans (hX.mono hq0.size))))
 have hfin := hid (show ∀ (w' : World) (x y : Value) (c : Nat) (a b : List Ky), makeM r s = (a, b, c) → KeysAt w' x a → KeysAt w' y b → Below W.heap.size W w' → SetsP W (makeM r s).1 (makeM r s).2.1 (makeM r s).2.2 (.returned (.tuple #[.agg #[x, y], .int .i64 (c : Int)])) w' from fun w' x y c a b e h1 h2 h3 => by rw [e]; exact ⟨x, y, rfl, h1, h2, h3⟩)
 obtain ⟨Post, hPost⟩ : ∃ Post, SetsP W (makeM r s).1 (makeM r s).2.1 (makeM r s).2.2 = Post := ⟨_, rfl⟩
 rw [hPost] at hfin ⊢
 clear hPost
 obtain ⟨ra, rc, rfl, _, _⟩ := hr.shape
 obtain ⟨sa, sc, rfl, _, _⟩ := hs.shape
 have HLR := hid hlr
 have HLS := hid hls
 clear hr hs hlr hls hq0 hB
 cases h1 : r.any strayK
 ·rw [h1] at C1
  have H1 := hid h1
  clear h1
  cases h2 : s.any strayK
  ·rw [h2] at C2
   have H2 := hid h2
   clear h2
   have S1 := hid (fun (X : World) (hX : Below V.heap.size V X) => set_keys X _ r (HR.out.later (Q.out.trans (hX.mono Q.out.size))) HLR.out)
   have S2 := hid (fun (X : World) (hX : Below V.heap.size V X) => set_keys X _ s (HS.out.later (Q.out.trans (hX.mono Q.out.size))) HLS.out)
   generalize hrn : r.length = rn at *
   generalize hsn : s.length = sn at *
   clear hrn hsn
   go_enter Try.func11, Try.ntmps11
   go_wp2_with fail
   refine C1.out.mono ?_
   rintro _ w1 ⟨rfl, hb1⟩
   go_wp2_with fail
   refine (C2.out w1 hb1).mono ?_
   rintro _ w2 ⟨rfl, hb2⟩
   have hb12 := hb1.trans (hb2.mono hb1.size)
   clear hb1 hb2
   go_wp2_with fail
   refine (S1.out w2 hb12).mono ?_
   rintro _ w3 ⟨v3, rfl, hk3, hb3⟩
   have hb13 := hb12.trans (hb3.mono hb12.size)
   obtain ⟨a3, c3, hv3, _⟩ := hk3.shape
   subst hv3
   have K3 := hid hk3
   clear hk3 hb3 hb12
   generalize hn3 : (setL r).length = n3 at *
   go_wp2_with fail
   refine (S2.out w3 hb13).mono ?_
   rintro _ w4 ⟨v4, rfl, hk4, hb4⟩
   have hb14 := hb13.trans (hb4.mono hb13.size)
   obtain ⟨a4, c4, hv4, _⟩ := hk4.shape
   subst hv4
   have K34 := hid (K3.out.later hb4)
   have K4 := hid hk4
   clear hk4 hb4 hb13
   generalize hn4 : (setL s).length = n4 at *
   obtain ⟨W5, hW5, hBB, hqq⟩ := newBox w4 24 #[.slice a3 n3 c3, .slice a4 n4 c4]
   have HN3 := hid hn3
   have HN4 := hid hn4
   have L1 := hid (long_any W5 _ (setL r) (K34.out.later hqq))
   have L2 := hid (fun (X : World) (hX : Below W5.heap.size W5 X) => long_any X _ (setL s) (K4.out.later (hqq.trans (hX.mono hqq.size))))
   rw [hn3] at L1
   rw [hn4] at L2
   have Q5 := hid (hb14.trans (hqq.mono hb14.size))
   have HBB := hid hBB
   have c0 := hBB.cell 0 _ rfl
   have QQ := hid hqq
   clear hBB hqq hb14 hn3 hn4
   cases h3 : decide (200 < n3)
   ·rw [h3] at L1
    have H3 := hid (of_decide_eq_false h3)
    clear h3
    cases h4 : decide (200 < n4)
    ·rw [h4] at L2
     have H4 := hid (of_decide_eq_false h4)
     clear h4
     go_wp2_with fail
     refine L1.out.mono ?_
     rintro _ w6 ⟨rfl, hb6⟩
     have c1 := (HBB.out.later hb6).cell 1 _ rfl
     go_wp2_with fail
     refine (L2.out w6 hb6).mono ?_
     rintro _ w7 ⟨rfl, hb7⟩
     have hb67 := hb6.trans (hb7.mono hb6.size)
     have d0 := (HBB.out.later hb67).cell 0 _ rfl
     have d1 := (HBB.out.later hb67).cell 1 _ rfl
     have q7 := Q5.out.trans (hb67.mono Q5.out.size)
     have b7 := HB.out.later q7
     have z0 := b7.cell 0 _ rfl
     have z1 := b7.cell 1 _ rfl
     have f0 := b7.frozen 0
     have f1 := b7.frozen 1
     have hF := hid ((b7.set 0 (.slice a3 n3 c3)).set 1 (.slice a4 n4 c4))
     have QF := hid (((Q.out.trans (q7.mono Q.out.size)).setCell (p := ⟨W.heap.size, 0, none⟩) (Nat.le_refl _) (.slice a3 n3 c3)).setCell (p := ⟨W.heap.size, 1, none⟩) (Nat.le_refl _) (.slice a4 n4 c4))
     have b7s : Has (w7.setCell ⟨W.heap.size, 0, none⟩ (.slice a3 n3 c3)) W.heap.size 24 #[.slice a3 n3 c3, .slice none 0 0] := b7.set 0 _
     have KA2 := hid (((K34.out.later (QQ.out.trans (hb67.mono QQ.out.size))).away b7 0 (.slice a3 n3 c3)).away b7s 1 (.slice a4 n4 c4))
     have KB2 := hid (((K4.out.later (QQ.out.trans (hb67.mono QQ.out.size))).away b7 0 (.slice a3 n3 c3)).away b7s 1 (.slice a4 n4 c4))
     clear b7s
     have Q7 := hid (hb67)
     have HZ := hid (HB.out)
     have M := hid (makeM_ok H1.out H2.out (by have := H3.out; have := HN3.out; omega) (by have := H4.out; have := HN4.out; omega))
     have b7' := hid b7
     clear hb6 hb7 hb67 q7 c0 c1 b7
     have HLt := hid HB.out.lt
     go_wp2_with fail
     refine bodyPost_ret (results_setsB rfl rfl hF.out) rfl ?_
     exact hfin.out _ _ _ 0 _ _ M.out KA2.out KB2.out QF.out
    ·rw [h4] at L2
     have H4 := hid (of_decide_eq_true h4)
     clear h4
     go_wp2_with fail
     refine L1.out.mono ?_
     rintro _ w6 ⟨rfl, hb6⟩
     have c1 := (HBB.out.later hb6).cell 1 _ rfl
     go_wp2_with fail
     refine (L2.out w6 hb6).mono ?_
     rintro _ w7 ⟨rfl, hb7⟩
     have q7 := Q5.out.trans ((hb6.trans (hb7.mono hb6.size)).mono Q5.out.size)
     have QX := hid (Q.out.trans (q7.mono Q.out.size))
     have bX := HB.out.later q7
     have z0 := bX.cell 0 _ rfl
     have z1 := bX.cell 1 _ rfl
     have f0 := bX.frozen 0
     have f1 := bX.frozen 1
     have hF := hid ((bX.set 0 (.slice none 0 0)).set 1 (.slice none 0 0))
     have QF := hid (((QX.out).setCell (p := ⟨W.heap.size, 0, none⟩) (Nat.le_refl _) (.slice none 0 0)).setCell (p := ⟨W.heap.size, 1, none⟩) (Nat.le_refl _) (.slice none 0 0))
     have M := hid (show makeM r s = ([], [], 2) from by unfold makeM; rw [H1.out, H2.out, if_neg (by decide), if_pos (.inr (by have := H4.out; have := HN4.out; omega))])
     clear bX
     go_wp2_with fail
     refine bodyPost_ret (results_setsB rfl rfl hF.out) rfl ?_
     exact hfin.out _ _ _ 2 _ _ M.out (KeysAt.nil _) (KeysAt.nil _) QF.out
   ·rw [h3] at L1
    have H3 := hid (of_decide_eq_true h3)
    clear h3
    go_wp2_with fail
    refine L1.out.mono ?_
    rintro _ w6 ⟨rfl, hb6⟩
    have q7 := Q5.out.trans (hb6.mono Q5.out.size)
    have QX := hid (Q.out.trans (q7.mono Q.out.size))
    have bX := HB.out.later q7
    have z0 := bX.cell 0 _ rfl
    have z1 := bX.cell 1 _ rfl
    have f0 := bX.frozen 0
    have f1 := bX.frozen 1
    have hF := hid ((bX.set 0 (.slice none 0 0)).set 1 (.slice none 0 0))
    have QF := hid (((QX.out).setCell (p := ⟨W.heap.size, 0, none⟩) (Nat.le_refl _) (.slice none 0 0)).setCell (p := ⟨W.heap.size, 1, none⟩) (Nat.le_refl _) (.slice none 0 0))
    have M := hid (show makeM r s = ([], [], 2) from by unfold makeM; rw [H1.out, H2.out, if_neg (by decide), if_pos (.inl (by have := H3.out; have := HN3.out; omega))])
    clear bX
    go_wp2_with fail
    refine bodyPost_ret (results_setsB rfl rfl hF.out) rfl ?_
    exact hfin.out _ _ _ 2 _ _ M.out (KeysAt.nil _) (KeysAt.nil _) QF.out
  ·rw [h2] at C2
   have H2 := hid h2
   clear h2
   go_enter Try.func11, Try.ntmps11
   go_wp2_with fail
   refine C1.out.mono ?_
   rintro _ w1 ⟨rfl, hb1⟩
   go_wp2_with fail
   refine (C2.out w1 hb1).mono ?_
   rintro _ w2 ⟨rfl, hb2⟩
   have hb12 := hb1.trans (hb2.mono hb1.size)
   have QX := hid (Q.out.trans (hb12.mono Q.out.size))
   have bX := HB.out.later hb12
   have z0 := bX.cell 0 _ rfl
   have z1 := bX.cell 1 _ rfl
   have f0 := bX.frozen 0
   have f1 := bX.frozen 1
   have hF := hid ((bX.set 0 (.slice none 0 0)).set 1 (.slice none 0 0))
   have QF := hid (((QX.out).setCell (p := ⟨W.heap.size, 0, none⟩) (Nat.le_refl _) (.slice none 0 0)).setCell (p := ⟨W.heap.size, 1, none⟩) (Nat.le_refl _) (.slice none 0 0))
   have M := hid (show makeM r s = ([], [], 1) from by unfold makeM; rw [H1.out, H2.out, if_pos (by decide)])
   clear bX
   go_wp2_with fail
   refine bodyPost_ret (results_setsB rfl rfl hF.out) rfl ?_
   exact hfin.out _ _ _ 1 _ _ M.out (KeysAt.nil _) (KeysAt.nil _) QF.out
 ·rw [h1] at C1
  have H1 := hid h1
  clear h1
  go_enter Try.func11, Try.ntmps11
  go_wp2_with fail
  refine C1.out.mono ?_
  rintro _ w1 ⟨rfl, hb1⟩
  have QX := hid (Q.out.trans (hb1.mono Q.out.size))
  have bX := HB.out.later hb1
  have z0 := bX.cell 0 _ rfl
  have z1 := bX.cell 1 _ rfl
  have f0 := bX.frozen 0
  have f1 := bX.frozen 1
  have hF := hid ((bX.set 0 (.slice none 0 0)).set 1 (.slice none 0 0))
  have QF := hid (((QX.out).setCell (p := ⟨W.heap.size, 0, none⟩) (Nat.le_refl _) (.slice none 0 0)).setCell (p := ⟨W.heap.size, 1, none⟩) (Nat.le_refl _) (.slice none 0 0))
  have M := hid (show makeM r s = ([], [], 1) from by unfold makeM; rw [H1.out, Bool.true_or, if_pos rfl])
  clear bX
  go_wp2_with fail
  refine bodyPost_ret (results_setsB rfl rfl hF.out) rfl ?_
  exact hfin.out _ _ _ 1 _ _ M.out (KeysAt.nil _) (KeysAt.nil _) QF.out
theorem risen_any (W : World) (sv : Value) (l : List Ky) (hs : KeysAt W sv l) (hl : l.length ≤ 100000) :
  Calls Try.prog 56 #[sv] W fun e w' => ∃ v', e = .returned v' ∧ KeysAt w' v' (setL l) ∧ Below W.heap.size W w' := by
 have HR := hid (krises_any W sv l hs)
 have HS := hid (fun (X : World) (hX : Below W.heap.size W X) => set_keys X sv l (hs.later hX) hl)
 have HK := hid hs
 obtain ⟨a, cap, rfl, _, _⟩ := hs.shape
 clear hs hl
 obtain ⟨n, hn⟩ : ∃ n, l.length = n := ⟨_, rfl⟩
 rw [hn] at HR HS HK ⊢
 clear hn
 cases hu : kupB l
 ·rw [hu] at HR
  clear hu
  go_enter Try.func56, Try.ntmps56
  go_wp2_with fail
  refine HR.out.mono ?_
  rintro _ w1 ⟨rfl, hb1⟩
  go_wp2_with fail
  refine (HS.out w1 hb1).mono ?_
  rintro _ w2 ⟨v2, rfl, hk, hb2⟩
  have KK := hid hk
  have QF := hid (hb1.trans (hb2.mono hb1.size))
  obtain ⟨_, _, rfl, _⟩ := hk
  clear hb1 hb2
  go_wp2_with fail
  go_ret
  exact ⟨_, rfl, KK.out, QF.out⟩
 ·rw [hu] at HR
  have HU := hid (setL_self ((kupB_iff l).1 hu))
  clear hu
  go_enter Try.func56, Try.ntmps56
  go_wp2_with fail
  refine HR.out.mono ?_
  rintro _ w1 ⟨rfl, hb1⟩
  have KK := hid (HK.out.later hb1)
  have QF := hid hb1
  clear hb1
  go_wp2_with fail
  go_ret
  exact ⟨_, rfl, by rw [HU.out]; exact KK.out, QF.out⟩
def put2 (w : World) (B : Nat) (x y : Value) : World := (w.setCell ⟨B, 0, none⟩ x).setCell ⟨B, 1, none⟩ y
section
variable {w : World} {B : Nat} {t : TypeId} {a b a' b' : Option Addr} {n c m d n' c' m' d' : Nat}
theorem Has.onPut2 (h : Has w B t #[.slice a n c, .slice b m d]) (x y : Value) : Has (put2 w B x y) B t #[x, y] := (h.set 0 x).set 1 y
theorem Has.onPut2_other {B' : Nat} {cs : Array Value} {t' : TypeId} (h : Has w B' t' cs) (hne : B' ≠ B) (x y : Value) : Has (put2 w B x y) B' t' cs := (h.other (p := ⟨B, 0, none⟩) hne x).other (p := ⟨B, 1, none⟩) hne y
theorem KeysAt.onPut2 {v : Value} {l : List Ky} (hk : KeysAt w v l) (h : Has w B t #[.slice a n c, .slice b m d]) (y : Value) : KeysAt (put2 w B (.slice a' n' c') y) v l :=
 (hk.away h 0 _).away (show Has (w.setCell ⟨B, 0, none⟩ (.slice a' n' c')) B t #[.slice a' n' c', .slice b m d] from h.set 0 _) 1 _
theorem below_put2 {K : Nat} {w0 : World} (h : Below K w0 w) (hK : K ≤ B) (x y : Value) : Below K w0 (put2 w B x y) := (h.setCell (p := ⟨B, 0, none⟩) hK x).setCell (p := ⟨B, 1, none⟩) hK y
end
def UI (W : World) (B : Nat) (x y : Value) (r s : List Ky) (f : Nat → Bool) (g : Nat → Value) (w : World) : Prop :=
 Below W.heap.size W w ∧ Has w B 24 #[x, y] ∧ (f 2 = true → KeysAt w (g 2) r) ∧ (f 5 = true → KeysAt w (g 5) s) ∧ (f 6 = true → g 6 = .agg #[g 2, g 5]) ∧
 (f 7 = false → Has w (B + 1) 24 #[.slice none 0 0, .slice none 0 0]) ∧ (f 7 = true → Has w (B + 1) 24 #[g 2, g 5])
section
variable {W : World} {B : Nat} {x y : Value} {r s : List Ky} {f : Nat → Bool} {g : Nat → Value} {w w' : World}
theorem UI.later (h : UI W B x y r s f g w) (hb : Below w.heap.size w w') : UI W B x y r s f g w' :=
 ⟨h.1.trans (hb.mono h.1.size), h.2.1.later hb, fun k => (h.2.2.1 k).later hb, fun k => (h.2.2.2.1 k).later hb, h.2.2.2.2.1, fun k => (h.2.2.2.2.2.1 k).later hb, fun k => (h.2.2.2.2.2.2 k).later hb⟩
theorem UI.same {f' : Nat → Bool} {g' : Nat → Value} (h : UI W B x y r s f g w) (hh : ∀ j, j = 2 ∨ j = 5 ∨ j = 6 ∨ j = 7 → f j = f' j ∧ g j = g' j) : UI W B x y r s f' g' w := by
 unfold UI at h ⊢
 rwa [(hh 2 (by omega)).1, (hh 2 (by omega)).2, (hh 5 (by omega)).1, (hh 5 (by omega)).2, (hh 6 (by omega)).1, (hh 6 (by omega)).2, (hh 7 (by omega)).1] at h
theorem UI.c2 (h : UI W B x y r s f g w) (hb : Below w.heap.size w w') (f6 : f 6 = false) (f7 : f 7 = false) {v : Value} (hk : KeysAt w' v r) : UI W B x y r s (upd f 2 true) (upd g 2 v) w' := by
 obtain ⟨h1, h2, h3, h4, h5, h6, h7⟩ := h.later hb
 exact ⟨h1, h2, fun _ => by simpa [upd] using hk, by simpa [upd] using h4, by simp [upd, f6], by simpa [upd] using h6, by simp [upd, f7]⟩
theorem UI.c5 (h : UI W B x y r s f g w) (hb : Below w.heap.size w w') (f6 : f 6 = false) (f7 : f 7 = false) {v : Value} (hk : KeysAt w' v s) : UI W B x y r s (upd f 5 true) (upd g 5 v) w' := by
 obtain ⟨h1, h2, h3, h4, h5, h6, h7⟩ := h.later hb
 exact ⟨h1, h2, by simpa [upd] using h3, fun _ => by simpa [upd] using hk, by simp [upd, f6], by simpa [upd] using h6, by simp [upd, f7]⟩
theorem UI.b6 (h : UI W B x y r s f g w) : UI W B x y r s (upd f 6 true) (upd g 6 (.agg #[g 2, g 5])) w := by
 obtain ⟨h1, h2, h3, h4, h5, h6, h7⟩ := h
 exact ⟨h1, h2, by simpa [upd] using h3, by simpa [upd] using h4, by simp [upd], by simpa [upd] using h6, by simpa [upd] using h7⟩
theorem UI.s7 (h : UI W B x y r s f g w) (f2 : f 2 = true) (f5 : f 5 = true) (f7 : f 7 = false) (hB : W.heap.size ≤ B) (u : Value) : UI W B x y r s (upd f 7 true) (upd g 7 u) (put2 w (B + 1) (g 2) (g 5)) := by
 obtain ⟨h1, h2, h3, h4, h5, h6, h7⟩ := h
 obtain ⟨a2, c2, e2, _⟩ := (h3 f2).shape
 obtain ⟨a5, c5, e5, _⟩ := (h4 f5).shape
 have hz := h6 f7
 refine ⟨below_put2 h1 (by omega) _ _, h2.onPut2_other (by omega) _ _, fun _ => ?_, fun _ => ?_, by simpa [upd] using h5, by simp [upd], fun _ => by simpa [upd] using hz.onPut2 _ _⟩
 ·have := h3 f2
  rw [e2] at this ⊢
  simpa [upd, e2] using this.onPut2 hz (g 5)
 ·have := h4 f5
  have k := this.onPut2 (a' := a2) (n' := r.length) (c' := c2) hz (g 5)
  rw [← e2] at k
  simpa [upd] using k
end
theorem inorder_any (W : World) (v : Value) (r s : List Ky) (hs : SetsAt W v r s) (hlr : r.length ≤ 100000) (hls : s.length ≤ 100000) :
  Calls Try.prog 38 #[v] W fun e w' => ∃ v', e = .returned v' ∧ SetsAt w' v' (setL r) (setL s) ∧ Below W.heap.size W w' := by
 have hmx : Try.prog.follows .mixedOrders = true := by kernel_rfl
 obtain ⟨rv, sv, rfl, hr, ht⟩ := hs.ex
 obtain ⟨ra, rc, rfl, _, _⟩ := hr.shape
 obtain ⟨sa, sc, rfl, _, _⟩ := ht.shape
 obtain ⟨rn, hrn⟩ : ∃ n, r.length = n := ⟨_, rfl⟩
 obtain ⟨sn, hsn⟩ : ∃ n, s.length = n := ⟨_, rfl⟩
 have HRI := hid (fun (X : World) (hX : Below W.heap.size W X) => risen_any X _ r (hr.later hX) hlr)
 have HSI := hid (fun (X : World) (hX : Below W.heap.size W X) => risen_any X _ s (ht.later hX) hls)
 rw [hrn] at HRI
 rw [hsn] at HSI
 clear hr ht hs hlr hls
 rw [hrn, hsn]
 clear hrn hsn
 have h0 := (Has.new W 24 #[.slice ra rn rc, .slice sa sn sc]).alloc (.cells #[.slice none 0 0, .slice none 0 0] 24)
 have h1 := Has.new (W.alloc (.cells #[.slice ra rn rc, .slice sa sn sc] 24)) 24 #[.slice none 0 0, .slice none 0 0]
 simp only [World.size_alloc] at h1
 have q0 := (newA W (.cells #[.slice ra rn rc, .slice sa sn sc] 24)).alloc (by simp) (.cells #[.slice none 0 0, .slice none 0 0] 24)
 obtain ⟨V, hV⟩ : ∃ V, (W.alloc (.cells #[.slice ra rn rc, .slice sa sn sc] 24)).alloc (.cells #[.slice none 0 0, .slice none 0 0] 24) = V := ⟨_, rfl⟩
 rw [hV] at h0 h1 q0
 have H0 := hid h0
 have H1 := hid h1
 have Q0 := hid q0
 clear h0 h1 q0
 go_enter Try.func38, Try.ntmps38
 go_wp2_with fail
 refine wp_region_ghost [some (.pointer (some ⟨W.heap.size, 0, none⟩)), some (.slice ra rn rc), none, some (.pointer (some ⟨W.heap.size, 1, none⟩)), some (.slice sa sn sc), none, none, none] [[], [0], [0, 1], [], [3], [0, 1, 2, 3, 4], [0, 1, 2, 3, 4, 5], [0, 1, 2, 3, 4, 5, 6]] (UI W W.heap.size (.slice ra rn rc) (.slice sa sn sc) (setL r) (setL s)) hmx (by kernel_rfl) (by kernel_rfl) (fun f g wa wb h hb => h.later hb) (fun f f' g g' wa h => fun hh => hh.same (fun j hj => h j (by rcases hj with rfl | rfl | rfl | rfl <;> rfl))) ?_ ?_
 ·exact UI.later (show UI W W.heap.size (.slice ra rn rc) (.slice sa sn sc) (setL r) (setL s) (fun _ => false) (fun _ => undef) V from ⟨Q0.out, H0.out, fun h => absurd h (by simp), fun h => absurd h (by simp), fun h => absurd h (by simp), fun _ => H1.out, fun h => absurd h (by simp)⟩) (Below.refl _ _).drew
 rintro f g y hU Dn
 refine GW.known _ rfl (fun hd hf => ?_) ?_
 ·clear hU Dn hd
  go_wp2_with fail
  exact ⟨rfl, rfl, Below.refl _ _⟩
 simp only [Act.put, sT, sS, sZ]
 refine GW.known _ rfl (fun hd hf => ?_) ?_
 ·have c := hU.2.1.cell 0 _ rfl
  clear hU Dn hd
  go_wp2_with fail
  exact ⟨rfl, rfl, Below.refl _ _⟩
 simp only [Act.put, sT, sS, sZ]
 refine GW.open rfl (fun hd hf => ?_) ?_
 ·have f6 : f 6 = false := (by cases h : f 6 with | false => rfl | true => exact absurd (Dn 6 h 2 (by decide)) (by rw [hf]; simp))
  have f7 : f 7 = false := (by cases h : f 7 with | false => rfl | true => exact absurd (Dn 7 h 2 (by decide)) (by rw [hf]; simp))
  have HC := HRI.out y hU.1
  have hfin := fun (w' : World) (v : Value) (hb : Below y.heap.size y w') (hk : KeysAt w' v (setL r)) => hU.c2 hb f6 f7 hk
  clear hU Dn hd f6 f7
  go_wp2_with fail
  refine HC.mono ?_
  rintro e u ⟨v', rfl, hk, hb⟩
  have hfin' := hfin u v' hb hk
  clear hfin HC hk hb
  go_wp2
  exact ⟨rfl, hfin'⟩
 simp only [Act.put, sT, sS, sZ]
 refine GW.known _ rfl (fun hd hf => ?_) ?_
 ·clear hU Dn hd
  go_wp2_with fail
  exact ⟨rfl, rfl, Below.refl _ _⟩
 simp only [Act.put, sT, sS, sZ]
 refine GW.known _ rfl (fun hd hf => ?_) ?_
 ·have c := hU.2.1.cell 1 _ rfl
  clear hU Dn hd
  go_wp2_with fail
  exact ⟨rfl, rfl, Below.refl _ _⟩
 simp only [Act.put, sT, sS, sZ]
 refine GW.open rfl (fun hd hf => ?_) ?_
 ·have f6 : f 6 = false := (by cases h : f 6 with | false => rfl | true => exact absurd (Dn 6 h 5 (by decide)) (by rw [hf]; simp))
  have f7 : f 7 = false := (by cases h : f 7 with | false => rfl | true => exact absurd (Dn 7 h 5 (by decide)) (by rw [hf]; simp))
  have HC := HSI.out y hU.1
  have hfin := fun (w' : World) (v : Value) (hb : Below y.heap.size y w') (hk : KeysAt w' v (setL s)) => hU.c5 hb f6 f7 hk
  clear hU Dn hd f6 f7
  go_wp2_with fail
  refine HC.mono ?_
  rintro e u ⟨v', rfl, hk, hb⟩
  have hfin' := hfin u v' hb hk
  clear hfin HC hk hb
  go_wp2
  exact ⟨rfl, hfin'⟩
 simp only [Act.put, sT, sS, sZ]
 refine GW.open rfl (fun hd hf => ?_) ?_
 ·obtain ⟨a2, c2, e2, _⟩ := (hU.2.2.1 (hd 2 (by decide))).shape
  obtain ⟨a5, c5, e5, _⟩ := (hU.2.2.2.1 (hd 5 (by decide))).shape
  have hm := hU.b6
  rw [e2, e5] at hm ⊢
  clear hU Dn hd e2 e5
  go_wp2_with fail
  exact ⟨rfl, hm⟩
 simp only [Act.put, sT, sS, sZ]
 refine GW.open rfl (fun hd hf => ?_) ?_
 ·obtain ⟨a2, c2, e2, _⟩ := (hU.2.2.1 (hd 2 (by decide))).shape
  obtain ⟨a5, c5, e5, _⟩ := (hU.2.2.2.1 (hd 5 (by decide))).shape
  have e6 := hU.2.2.2.2.1 (hd 6 (by decide))
  have hz := hU.2.2.2.2.2.1 hf
  have z0 := hz.cell 0 _ rfl
  have z1 := hz.cell 1 _ rfl
  have f0 := hz.frozen 0
  have f1 := hz.frozen 1
  have hm := fun u => hU.s7 (hd 2 (by decide)) (hd 5 (by decide)) hf (Nat.le_refl _) u
  rw [e6, e2, e5]
  rw [e2, e5] at hm
  clear hU Dn hd e2 e5 e6 hz
  go_wp2_with fail
  exact ⟨rfl, hm _⟩
 simp only [Act.put]
 refine GW.nil fun hall => ?_
 have h2 := hU.2.2.1 (hall 2 (by decide))
 have h5 := hU.2.2.2.1 (hall 5 (by decide))
 have hF := hid (hU.2.2.2.2.2.2 (hall 7 (by decide)))
 have QF := hid hU.1
 have HF := hid (show SetsAt y (.agg #[g 2, g 5]) (setL r) (setL s) from ⟨_, _, rfl, h2, h5⟩)
 clear hU Dn hall h2 h5
 go_wp2_with fail
 refine bodyPost_ret (results_sets rfl rfl hF.out) rfl ?_
 exact ⟨_, rfl, HF.out, QF.out⟩
theorem kmay_any (W : World) (v : Value) (r s : List Ky) (k : Ky) (b : Bool) (hk : KyOk k) (hs : SetsAt W v r s) :
  Calls Try.prog 16 #[v, .agg (kyC k), .bool b] W fun e w' => e = .returned (.bool (s.any (fun x => decide (k = x)) || (!b && r.any fun x => decide (k = x)))) ∧ Below W.heap.size W w' := by
 obtain ⟨rv, sv, rfl, hr, ht⟩ := hs.ex
 obtain ⟨ra, rc, rfl, _, _⟩ := hr.shape
 obtain ⟨sa, sc, rfl, _, _⟩ := ht.shape
 have HS := hid (fun (X : World) (hX : Below W.heap.size W X) => kcontains_any X _ s k hk (ht.later hX))
 have HR := hid (fun (X : World) (hX : Below W.heap.size W X) => kcontains_any X _ r k hk (hr.later hX))
 clear hs hr ht hk
 have h0 := (Has.new W 24 #[.slice ra r.length rc, .slice sa s.length sc]).alloc (.cells (kyC k) 31)
 have h1 := Has.new (W.alloc (.cells #[.slice ra r.length rc, .slice sa s.length sc] 24)) 31 (kyC k)
 simp only [World.size_alloc] at h1
 have q0 := (newA W (.cells #[.slice ra r.length rc, .slice sa s.length sc] 24)).alloc (by simp) (.cells (kyC k) 31)
 obtain ⟨V, hV⟩ : ∃ V, (W.alloc (.cells #[.slice ra r.length rc, .slice sa s.length sc] 24)).alloc (.cells (kyC k) 31) = V := ⟨_, rfl⟩
 rw [hV] at h0 h1 q0
 have H0 := hid h0
 have H1 := hid h1
 have Q := hid q0
 have c1 := h0.cell 1 _ rfl
 have L0 := hid h1.kyLoad
 have L1 := hid (fun (X : World) (hX : Below V.heap.size V X) => (h1.later hX).kyLoad)
 have HS0 := hid (HS.out V q0)
 generalize (s.any fun x => decide (k = x)) = p at *
 generalize (r.any fun x => decide (k = x)) = q at *
 generalize r.length = rn at *
 generalize s.length = sn at *
 generalize kyC k = ck at *
 clear h0 h1 q0
 cases p
 ·cases b
  ·go_enter Try.func16, Try.ntmps16
   go_wp2_with (first | (with_reducible refine wpList_load_known rfl _ (.tmp 4) rfl _ rfl _ L0.out ?_) | fail)
   refine HS0.out.mono ?_
   rintro _ w1 ⟨rfl, hb1⟩
   have c0 := (H0.out.later hb1).cell 0 _ rfl
   have HE := hid (Q.out.trans (hb1.mono Q.out.size))
   have L2 := hid (L1.out w1 hb1)
   go_wp2_with (first | (with_reducible refine wpList_load_known rfl _ (.tmp 4) rfl _ rfl _ L2.out ?_) | fail)
   refine (HR.out w1 HE.out).mono ?_
   rintro _ w2 ⟨rfl, hb2⟩
   have HF := hid (HE.out.trans (hb2.mono HE.out.size))
   go_wp2_with fail
   go_ret
   exact ⟨rfl, HF.out⟩
  ·go_enter Try.func16, Try.ntmps16
   go_wp2_with (first | (with_reducible refine wpList_load_known rfl _ (.tmp 4) rfl _ rfl _ L0.out ?_) | fail)
   refine HS0.out.mono ?_
   rintro _ w1 ⟨rfl, hb1⟩
   have HE := hid (Q.out.trans (hb1.mono Q.out.size))
   go_wp2_with fail
   go_ret
   exact ⟨rfl, HE.out⟩
 ·go_enter Try.func16, Try.ntmps16
  go_wp2_with (first | (with_reducible refine wpList_load_known rfl _ (.tmp 4) rfl _ rfl _ L0.out ?_) | fail)
  refine HS0.out.mono ?_
  rintro _ w1 ⟨rfl, hb1⟩
  have HE := hid (Q.out.trans (hb1.mono Q.out.size))
  go_wp2_with fail
  go_ret
  exact ⟨rfl, HE.out⟩
end
section
open Go Go.RowKit Go.Shelf
attribute [local go_sem] Oper.semAt_some Grows wide_fn
theorem wpListIn_load_known {P : Program} {F : Fence} {n : Nat} {ops : Array Oper} {rest : List Oper} {o : Oper} {a : Act} {w : World} {Q : Exit → Act → World → Prop} (hw : Region.wanted o (yielded ops a.tmps) = true) (ty : TypeId) (x : Operand) (ho : o.op = .load ty x) (p : Addr) (hx : a.eval x = .pointer (some p)) (v : Value) (hr : (loadVar ty p).run P w = .ok v w)
  (h : wpListIn F n P ops Q rest (a.put o.dst v) w) : wpListIn F n P ops Q (o :: rest) a w :=
 BigFrame.wpListIn_want hw fun K hK => by
  refine ⟨fun f hf => ?_, ?_⟩
  ·simp [Oper.about, ho] at hf
  ·rw [Oper.semAt_eq _ _ _ (by simp [ho])]
   unfold execOp
   simp only [ho, hx, Instr.loadAt, Instr.sureAddr, Sem.run_bind, Sem.run_pure, Result.andThen_ok, hr]
   exact hK _ _ h
def Behind (la lb : List Ky) (i j : Nat) : Prop := ∀ x, x ∈ la → x ∈ lb → x ∈ la.drop i ∧ x ∈ lb.drop j
theorem Behind.left {la lb : List Ky} {i j : Nat} {x y : Ky} (h : Behind la lb i j) (_ha : Kup la) (hb : Kup lb) (hx : la[i]? = some x) (hy : lb[j]? = some y) (hl : Kl x y) : Behind la lb (i + 1) j := fun z h1 h2 => by
 obtain ⟨k1, k2⟩ := h z h1 h2
 refine ⟨?_, k2⟩
 have hi := (List.getElem?_eq_some_iff.1 hx).1
 have hj := (List.getElem?_eq_some_iff.1 hy).1
 rw [List.drop_eq_getElem_cons hi, (List.getElem?_eq_some_iff.1 hx).2] at k1
 rcases List.mem_cons.1 k1 with rfl | k1
 ·exfalso
  rw [List.drop_eq_getElem_cons hj, (List.getElem?_eq_some_iff.1 hy).2] at k2
  rcases List.mem_cons.1 k2 with rfl | k3
  ·exact Kl.irrefl _ hl
  ·have hd : Kup (lb.drop j) := List.Pairwise.drop hb
   rw [List.drop_eq_getElem_cons hj, (List.getElem?_eq_some_iff.1 hy).2] at hd
   exact Kl.irrefl _ (hl.trans ((List.pairwise_cons.1 hd).1 _ k3))
 ·exact k1
theorem Behind.right {la lb : List Ky} {i j : Nat} {x y : Ky} (h : Behind la lb i j) (ha : Kup la) (hb : Kup lb) (hx : la[i]? = some x) (hy : lb[j]? = some y) (hl : Kl y x) : Behind la lb i (j + 1) := fun z h1 h2 => by
 have h' : Behind lb la j i := fun z a b => (h z b a).symm
 exact (h'.left hb ha hy hx hl z h2 h1).symm
structure BothP (w0 : World) (J : List Ky → World → Prop) (la lb : List Ky) (i j : Nat) (pre : List Ky) (w : World) : Prop where
 il : i ≤ la.length
 jl : j ≤ lb.length
 pl : pre.length ≤ i
 bh : pre = [] → Behind la lb i j
 have_ : J pre w
 below : Below w0.heap.size w0 w
theorem abides_below {J : List Ky → World → Prop} {B : Nat} (hJ : AbidesFrom B J) {pre : List Ky} {W X : World} (h : J pre W) (hb : Below W.heap.size W X) : J pre X := hJ pre W X none h (grown_of_below hb none) (fun r e => by cases e)
theorem both_stops (n : Nat) (la lb : List Ky) (sa sb : Value) (B1 B2 B3 : Nat) (w0 : World) (ha : KeysAt w0 sa la) (hb : KeysAt w0 sb lb) (hua : Kup la) (hub : Kup lb)
  (h1 : Has w0 B1 22 #[sa]) (h2 : Has w0 B2 22 #[sb]) (h3 : Has w0 B3 37 #[.func (.func 8) #[] #[]]) :
  SeqStopsK Fence.wide n Try.prog 63 #[.pointer (some ⟨B1, 0, none⟩), .pointer (some ⟨B2, 0, none⟩), .pointer (some ⟨B3, 0, none⟩)] (fun x : Ky => #[Value.agg (kyC x)]) (Below w0.heap.size)
   (fun xs => xs = [] → ∀ x, x ∈ la → x ∈ lb → False) (fun _ => ∃ x, x ∈ la ∧ x ∈ lb) (la.length + 1) w0 := by
 intro ll J Jx W hW hJA hJxA hY h0
 have hmx : Try.prog.follows .mixedOrders = true := by kernel_rfl
 have HW0 := hid hW
 have HJA := hid hJA
 have HY := hid hY
 have HH := hid (And.intro h1 (And.intro h2 h3))
 have HA := hid ha
 have HB := hid hb
 have HUA := hid hua
 have HUB := hid hub
 have HJ0 := hid h0
 obtain ⟨aa, ca, rfl, hna, hma⟩ := ha.shape
 obtain ⟨ab, cb, rfl, hnb, hmb⟩ := hb.shape
 obtain ⟨na, hla⟩ : ∃ n, la.length = n := ⟨_, rfl⟩
 obtain ⟨nb, hlb⟩ : ∃ n, lb.length = n := ⟨_, rfl⟩
 have HLA := hid hla
 have HLB := hid hlb
 rw [hla] at HA HH HY hna
 rw [hlb] at HB HH hnb
 have HNA := hid (show na ≤ 9223372036854775807 from Nat.le_trans hna hma)
 have HNB := hid (show nb ≤ 9223372036854775807 from Nat.le_trans hnb hmb)
 clear hJA hJxA hY h1 h2 h3 ha hb hW h0 hua hub hna hma hnb hmb hla hlb
 refine callsIn_of_wp Try.func63 rfl trivial ?_ rfl
 simp only [Try.ntmps63, List.size_toArray, List.length_cons, List.length_nil, Nat.reduceAdd, Nat.reduceSub, Array.replicate_succ, Array.replicate_zero, List.push_toArray, List.append_toArray, List.nil_append, List.cons_append]
 gi_wp2_with fail
 gi_loopw [5, 6] (fun iv jv wr => ∃ (i j : Nat) (pre : List Ky), iv = .int .i64 (i : Int) ∧ jv = .int .i64 (j : Int) ∧ BothP w0 J la lb i j pre wr) (fun iv jv _ => na + nb - (intOf iv).toNat - (intOf jv).toNat)
 case atStart => exact ⟨0, 0, [], rfl, rfl, Nat.zero_le _, Nat.zero_le _, Nat.zero_le _, fun _ x h1 h2 => by simp [h1, h2], HJ0.out, HW0.out⟩
 case round =>
  obtain ⟨i, j, pre, rfl, rfl, hp⟩ := hrel
  have HP := hid hp
  have c1 := (HH.out.1.later hp.below).cell 0 _ rfl
  have c2 := (HH.out.2.1.later hp.below).cell 0 _ rfl
  have hi' := hp.il
  have hj' := hp.jl
  rw [HLA.out] at hi'
  rw [HLB.out] at hj'
  clear hp
  by_cases hi : i < na
  ·have hiI : (i : Int) < (na : Int) := by omega
   have hi0 : (0 : Int) ≤ (i : Int) := by omega
   have hib : (i : Int) ≤ 9223372036854775806 := by have := HNA.out; omega
   by_cases hj : j < nb
   ·have hjI : (j : Int) < (nb : Int) := by omega
    have hj0 : (0 : Int) ≤ (j : Int) := by omega
    have hjb : (j : Int) ≤ 9223372036854775806 := by have := HNB.out; omega
    obtain ⟨x, hx⟩ : ∃ x, la[i]? = some x := ⟨_, List.getElem?_eq_getElem (by have := HLA.out; omega)⟩
    obtain ⟨y, hy⟩ : ∃ y, lb[j]? = some y := ⟨_, List.getElem?_eq_getElem (by have := HLB.out; omega)⟩
    obtain ⟨b, rfl, ax⟩ := (HA.out.later HP.out.below).at hx
    obtain ⟨b2, rfl, ay⟩ := (HB.out.later HP.out.below).at hy
    have LX := hid (show ∀ z : World, Grows wr z → (loadVar 31 (b.add (i * 25))).run Try.prog z = .ok (.agg (kyC x)) z from fun z hz => by obtain ⟨q, rfl⟩ := hz; exact (ax.later q.below).load)
    have LY := hid (show ∀ z : World, Grows wr z → (loadVar 31 (b2.add (j * 25))).run Try.prog z = .ok (.agg (kyC y)) z from fun z hz => by obtain ⟨q, rfl⟩ := hz; exact (ay.later q.below).load)
    have K3 := hid (fun z : Ext wr => Ext.atK (korder_any z.w x y (HA.out.ok hx) (HB.out.ok hy)))
    have e1 : ∀ z : Ext wr, z.w.cell? ⟨B1, 0, none⟩ = some (.slice (some b) na ca) := fun z => cell_below z.below _ _ c1
    have e2 : ∀ z : Ext wr, z.w.cell? ⟨B2, 0, none⟩ = some (.slice (some b2) nb cb) := fun z => cell_below z.below _ _ c2
    have e3 : ∀ z : Ext wr, z.w.cell? ⟨B3, 0, none⟩ = some (.func (.func 8) #[] #[]) := fun z => ((HH.out.2.2.later HP.out.below).later z.below).cell 0 _ rfl
    have HX := hid (And.intro hx hy)
    have HIJ := hid (And.intro hi hj)
    have CX := hid (show kyC x = kyC x from rfl)
    have HT := hid (kcmp_tri x y)
    clear hx hy ax ay hi hj hi' hj'
    generalize hcx : kyC x = cx at LX K3
    generalize hcy : kyC y = cy at LY K3
    have HCX := hid hcx
    clear hcx hcy CX
    gi_wp2_with fail
    refine wpIn_region_quietF (C := Grows wr) free_wide hmx (by kernel_rfl) (by kernel_rfl) (grows_refl wr) ?_
    repeat (first | (with_reducible refine wpQuiet_load rfl 31 _ rfl _ rfl _ LX.out ?_; simp only [Act.put, sT, sS, sZ]) | (with_reducible refine wpQuiet_load rfl 31 _ rfl _ rfl _ LY.out ?_; simp only [Act.put, sT, sS, sZ]) | (go_big_quiet_step (first | (with_reducible exact K3.out _))))
    refine wpQuiet_nil ?_
    rintro _ ⟨z, rfl⟩
    have HPZ := hid (show BothP w0 J la lb i j pre z.w from ⟨HP.out.il, HP.out.jl, HP.out.pl, HP.out.bh, abides_below HJA.out HP.out.have_ z.below, HP.out.below.trans (z.below.mono HP.out.below.size)⟩)
    have d1 := e1 z
    have LZ := hid (LX.out z.w ⟨z, rfl⟩)
    clear LX LY K3 e1 e2 e3 c1 c2
    rcases HT.out with ⟨hl, hc⟩ | ⟨he, hc⟩ | ⟨hl, hc⟩
    ·rw [hc]
     have HL := hid hl
     clear hl hc
     gi_wp2_with fail
     go_roundw
     case rel => exact ⟨i + 1, j, pre, by simp, rfl, by have := HIJ.out; have := HLA.out; omega, HPZ.out.jl, by have := HPZ.out.pl; omega, fun h => (HPZ.out.bh h).left HUA.out HUB.out HX.out.1 HX.out.2 HL.out, HPZ.out.have_, HPZ.out.below⟩
     case measure => have := HIJ.out; simp [intOf]; omega
    ·rw [hc]
     have HE := hid he
     have HYX := hid (HY.out pre x z.w HPZ.out.have_ (by have := HPZ.out.pl; have := HIJ.out; omega))
     clear he hc
     obtain ⟨fn, tmps, assign, body, hy, hR⟩ := HYX.out
     rw [HCX.out] at hy
     have HR := hid hR
     clear hR HYX
     gi_wp2_with (first | (with_reducible refine wpListIn_load_known rfl _ (.tmp 34) rfl _ rfl _ LZ.out ?_) | fail)
     refine ⟨fun h => absurd h (by simp [Fence.wide]), HR.out.mono ?_⟩
     rintro e W3 (⟨rfl, hJ3, hk3⟩ | ⟨rfl, hJx3⟩)
     ·have HJ3 := hid hJ3
      have HK3 := hid (HPZ.out.below.trans hk3)
      clear hJ3 hk3 hy
      gi_wp2_with fail
      go_roundw
      case rel => exact ⟨i + 1, j + 1, pre ++ [x], by simp, by simp, by have := HIJ.out; have := HLA.out; omega, by have := HIJ.out; have := HLB.out; omega, by have := HPZ.out.pl; simp; omega, fun h => by simp at h, HJ3.out, HK3.out⟩
      case measure => have := HIJ.out; simp [intOf]; omega
     ·have HJx3 := hid hJx3
      clear hJx3 hy
      gi_wp2_with fail
      refine bodyPost_ret (results_none rfl _ _ _) rfl ?_
      exact ⟨⟨_, rfl⟩, .inr ⟨_, ⟨x, List.mem_of_getElem? HX.out.1, by rw [HE.out]; exact List.mem_of_getElem? HX.out.2⟩, HJx3.out⟩⟩
    ·rw [hc]
     have HL := hid hl
     clear hl hc
     gi_wp2_with fail
     go_roundw
     case rel => exact ⟨i, j + 1, pre, rfl, by simp, HPZ.out.il, by have := HIJ.out; have := HLB.out; omega, HPZ.out.pl, fun h => (HPZ.out.bh h).right HUA.out HUB.out HX.out.1 HX.out.2 HL.out, HPZ.out.have_, HPZ.out.below⟩
     case measure => have := HIJ.out; simp [intOf]; omega
   ·have hjI : ¬ (j : Int) < (nb : Int) := by omega
    have HE := hid (show j = lb.length by have := HLB.out; omega)
    clear hj hi hi' hj'
    gi_wp2_with fail
    go_end0
    have hS : pre = [] → ∀ x, x ∈ la → x ∈ lb → False := fun hn x h1 h2 => by
     have := (HP.out.bh hn x h1 h2).2
     rw [HE.out, List.drop_length] at this
     exact absurd this (by simp)
    exact ⟨⟨_, rfl⟩, .inl ⟨pre, hS, HP.out.have_⟩⟩
  ·have hiI : ¬ (i : Int) < (na : Int) := by omega
   have HE := hid (show i = la.length by have := HLA.out; omega)
   clear hi hi' hj'
   gi_wp2_with fail
   go_end0
   have hS : pre = [] → ∀ x, x ∈ la → x ∈ lb → False := fun hn x h1 h2 => by
    have := (HP.out.bh hn x h1 h2).1
    rw [HE.out, List.drop_length] at this
    exact absurd this (by simp)
   exact ⟨⟨_, rfl⟩, .inl ⟨pre, hS, HP.out.have_⟩⟩
theorem kboth_any (w : World) (sa sb : Value) (aa : Option Addr) (na ca : Nat) (ab : Option Addr) (nb cb : Nat) (ea : sa = .slice aa na ca) (eb : sb = .slice ab nb cb) :
  Calls Try.prog 57 #[sa, sb, .func (.func 8) #[] #[]] w fun e w' => e = .returned (.func (.func 63) #[] #[.pointer (some ⟨w.heap.size, 0, none⟩), .pointer (some ⟨w.heap.size + 1, 0, none⟩), .pointer (some ⟨w.heap.size + 1 + 1, 0, none⟩)]) ∧ w' = ((w.alloc (.cells #[sa] 22)).alloc (.cells #[sb] 22)).alloc (.cells #[.func (.func 8) #[] #[]] 37) := by
 subst ea eb
 go_enter Try.func57, Try.ntmps57
 go_wp2
 go_ret
 exact ⟨rfl, rfl⟩
def meetB (a b : List Ky) : Bool := a.any fun x => b.any fun y => decide (x = y)
theorem meetB_true {a b : List Ky} (h : ∃ x, x ∈ a ∧ x ∈ b) : meetB a b = true := by
 obtain ⟨x, h1, h2⟩ := h
 exact List.any_eq_true.2 ⟨x, h1, List.any_eq_true.2 ⟨x, h2, decide_eq_true rfl⟩⟩
theorem meetB_false {a b : List Ky} (h : ∀ x, x ∈ a → x ∈ b → False) : meetB a b = false := by
 refine Bool.eq_false_iff.2 fun hm => ?_
 obtain ⟨x, h1, h2⟩ := List.any_eq_true.1 hm
 obtain ⟨y, h3, h4⟩ := List.any_eq_true.1 h2
 have e := of_decide_eq_true h4
 subst e
 exact h x h1 h3
theorem kmeet_any (w : World) (sa sb : Value) (la lb : List Ky) (ha : KeysAt w sa la) (hb : KeysAt w sb lb) (hua : Kup la) (hub : Kup lb) :
  Calls Try.prog 39 #[sa, sb] w fun e w' => e = .returned (.bool (meetB la lb)) ∧ Below w.heap.size w w' := by
 have h1 : 1 ≤ 3 := by omega
 obtain ⟨mv, hmv⟩ : ∃ mv, meetB la lb = mv := ⟨_, rfl⟩
 have HMV := hid hmv
 rw [hmv]
 clear hmv
 obtain ⟨Post, hPost⟩ : ∃ Post : Ending → World → Prop, (fun (e : Ending) (w' : World) => e = .returned (.bool mv) ∧ Below w.heap.size w w') = Post := ⟨_, rfl⟩
 have hfin := hid (show ∀ X v, Below w.heap.size w X → mv = v → Post (.returned (.bool v)) X from fun X v hX h => by rw [← hPost, h]; exact ⟨rfl, hX⟩)
 rw [hPost]
 clear hPost
 obtain ⟨aa, ca, ea, _, _⟩ := ha.shape
 obtain ⟨ab, cb, eb, _, _⟩ := hb.shape
 refine (callsIn_wide (n := 3)).1 ?_
 refine callsIn_of_wp_marks Try.func39 rfl trivial ?_ rfl
 simp only [Try.ntmps39, List.size_toArray, List.length_cons, List.length_nil, Nat.reduceAdd, Nat.reduceSub, Array.replicate_succ, Array.replicate_zero, List.push_toArray, List.append_toArray, List.nil_append, List.cons_append]
 have HCB0 := (kboth_any (w.alloc (.cells #[.bool false] 4)) sa sb aa la.length ca ab lb.length cb ea eb)
 simp only [World.size_alloc] at HCB0
 have HCB := hid HCB0
 clear HCB0
 have HA := hid ha
 have HB := hid hb
 clear ha hb
 subst ea eb
 gi_wp2_with (gi_at_call 57; refine (callsIn_free free_wide HCB.out).mono ?_; rintro e w1 ⟨rfl, hw0⟩; have hw1 := hid hw0; clear hw0)
 have k0 := Boxed.new w 4 (.bool false)
 have k1 := Has.new (w.alloc (.cells #[.bool false] 4)) 22 #[.slice aa la.length ca]
 have k2 := Has.new ((w.alloc (.cells #[.bool false] 4)).alloc (.cells #[.slice aa la.length ca] 22)) 22 #[.slice ab lb.length cb]
 have k3 := Has.new (((w.alloc (.cells #[.bool false] 4)).alloc (.cells #[.slice aa la.length ca] 22)).alloc (.cells #[.slice ab lb.length cb] 22)) 37 #[.func (.func 8) #[] #[]]
 simp only [World.size_alloc] at k1 k2 k3
 have K0 : Boxed w1 w.heap.size 4 (.bool false) := by rw [hw1.out]; exact ((k0.alloc _).alloc _).alloc _
 have K1 : Has w1 (w.heap.size + 1) 22 #[.slice aa la.length ca] := by rw [hw1.out]; exact (k1.alloc _).alloc _
 have K2 : Has w1 (w.heap.size + 1 + 1) 22 #[.slice ab lb.length cb] := by rw [hw1.out]; exact k2.alloc _
 have K3 : Has w1 (w.heap.size + 1 + 1 + 1) 37 #[.func (.func 8) #[] #[]] := by rw [hw1.out]; exact k3
 have hB1 : Below w.heap.size w w1 := by
  rw [hw1.out]; exact ((((Below.refl _ w).alloc (Nat.le_refl _) _).alloc (by simp) _).alloc (by simp; omega) _).alloc (by simp; omega) _
 have hsz : w1.heap.size = w.heap.size + 4 := by rw [hw1.out]; simp
 clear hw1 k0 k1 k2 k3 HCB
 refine wpIn_rangeFunc_ownG rfl h1 (gf := 63) (lb := #[.pointer (some ⟨w.heap.size + 1, 0, none⟩), .pointer (some ⟨w.heap.size + 1 + 1, 0, none⟩), .pointer (some ⟨w.heap.size + 1 + 1 + 1, 0, none⟩)]) rfl trivial (enters_of Try.func63 (by kernel_rfl) rfl)
  (both_stops _ la lb _ _ (w.heap.size + 1) (w.heap.size + 1 + 1) (w.heap.size + 1 + 1 + 1) w1 (HA.out.later hB1) (HB.out.later hB1) hua hub K1 K2 K3) Below.trans (belowK_b (Nat.le_refl _)) (Below.refl _ _) (fun _ => rfl)
  (fun pre W => (Boxed W w.heap.size 4 (.bool false) ∧ pre = []) ∧ Below w.heap.size w W)
  (fun c _ W => (Boxed W w.heap.size 4 (.bool true) ∧ c = Code.ret) ∧ Below w.heap.size w W)
  ?hI ?hIx ⟨⟨K0, rfl⟩, hB1⟩
  (fun x => { tmps := #[.slice aa la.length ca, .slice ab lb.length cb, undef, undef, .pointer (some ⟨w.heap.size, 0, none⟩), .slice aa la.length ca, .slice ab lb.length cb, .func (.func 63) #[] #[.pointer (some ⟨w.heap.size + 1, 0, none⟩), .pointer (some ⟨w.heap.size + 1 + 1, 0, none⟩), .pointer (some ⟨w.heap.size + 1 + 1 + 1, 0, none⟩)], .agg (kyC x)], defers := [] }) ?assign ?body ?done ?stop
 case hI => exact OwnFrom.and (OwnFrom.and (Own.from (boxed_own _ _ (fun _ : List Ky => Value.bool false)) _) (ownFrom_pure _ _)) (ownFrom_below (Nat.le_refl _) (by omega))
 case hIx => exact fun c => OwnFrom.and (OwnFrom.and (Own.from (boxed_own _ _ (fun _ : List Ky => Value.bool true)) _) (ownFrom_pure _ _)) (ownFrom_below (Nat.le_refl _) (by omega))
 case assign =>
  intro l x W K hK
  gi_wp2
  simpa using hK
 case body =>
  rintro l pre x W ⟨⟨bb, hp⟩, hBw⟩ _
  have c0 := bb.cell
  have f0 := bb.frozen
  have HBB := hid bb
  have HBW := hid hBw
  clear bb hBw
  generalize kyC x = cx at *
  gi_wp2_with fail
  exact ⟨(KeepsOthers.setCell _ _ _).from _, ⟨HBB.out.set _, rfl⟩, HBW.out.setCell (p := ⟨w.heap.size, 0, none⟩) (Nat.le_refl _) _⟩
 case done =>
  rintro D xs W hD hS ⟨⟨bb, rfl⟩, hBw⟩ hK
  have c0 := bb.cell
  have f0 := bb.frozen
  have HBB := hid (bb.set (.bool false))
  have HBW := hid (hBw.setCell (p := ⟨w.heap.size, 0, none⟩) (Nat.le_refl _) (.bool false))
  have HS := hid (show mv = false from by rw [← HMV.out]; exact meetB_false (hS rfl))
  have hK' : (W.setCell ⟨w.heap.size, 0, none⟩ (.bool false)).heap[D]? = some (.deferred (some [])) := (KeepsOthers.setCell W ⟨w.heap.size, 0, none⟩ (.bool false)).same D _ hK rfl
  clear bb hBw hS
  gi_wp2_with fail
  refine ⟨by simp, .inl ⟨_, _, rfl, run_takeDeferred hK', ?_⟩⟩
  have b9 := HBB.out.kept (grownBy_putObj' _ D (.deferred none)) (fun e => by cases e; have := (show _ = _ from HBB.out).symm.trans hK'; cases this)
  have e0 := b9.cell
  refine ⟨.bool false, by simp [results, Try.f39, go_sem, e0], ?_⟩
  exact hfin.out _ _ (HBW.out.trans (belowK_b (w := w1) hB1.size _ D _ _ hD hK' rfl rfl)) HS.out
 case stop =>
  rintro D c pre W hD hSp ⟨⟨bb, rfl⟩, hBw⟩ hK
  have HBB := hid bb
  have HBW := hid hBw
  have HS := hid (show mv = true from by rw [← HMV.out]; exact meetB_true hSp)
  clear bb hBw hSp
  gi_wp2_with fail
  refine ⟨by simp, .inl ⟨_, _, rfl, run_takeDeferred hK, ?_⟩⟩
  have b9 := HBB.out.kept (grownBy_putObj' _ D (.deferred none)) (fun e => by cases e; have := (show _ = _ from HBB.out).symm.trans hK; cases this)
  have e0 := b9.cell
  refine ⟨.bool true, by simp [results, Try.f39, go_sem, e0], ?_⟩
  exact hfin.out _ _ (HBW.out.trans (belowK_b (w := w1) hB1.size _ D _ _ hD hK rfl rfl)) HS.out
end
end Go.Proofs.Ytahjgllnfbejmaa
