/- Keys appended, Grow, Concat; set. Conditions: the keys lie in memory. -/
import Derived.Test.YtbkgipggblphlaaAcU
import Derived.Test.YtbkgipggblphlaaAcL
import Derived.Lib.AppendZerosOnto
namespace Go.Proofs.Ytbkgipggblphlaa
open Go Go.RowKit
attribute [local go_sem] Oper.semAt_some Grows wide_fn

theorem KRow.nil (W : World) (base : Nat) : KRow W base (.slice none 0 0) [] := World.ownsRow_nil _ _ _ _
theorem KRow.shapeK {W : World} {base : Nat} {v : Value} {l : List Ky} (h : KRow W base v l) : ∃ a cap, v = .slice a l.length cap := by
  rcases h.2 with ⟨rfl, h0⟩ | ⟨g, cap, cur, rfl, _⟩
  · exact ⟨none, 0, by rw [h0]⟩
  · exact ⟨_, _, rfl⟩
theorem KRow.blockK {W : World} {base : Nat} {v : Value} {l : List Ky} (h : KRow W base v l) {b : Nat} (hb : v.ownBlock = some b) : base ≤ b ∧ ∃ cs, W.heap[b]? = some (.cells cs 31 (0, 0)) := by
  rcases h.2 with ⟨rfl, h0⟩ | ⟨g, cap, cur, rfl, hbg, hg', _⟩
  · cases hb
  · injection hb with hb
    subst hb
    exact ⟨hbg, cur, hg'⟩
theorem flatKy_append (a b : List Ky) : flatKy (a ++ b) = flatKy a ++ flatKy b := by simp [flatKy]
theorem infoKz_of : ∃ i z, Try.prog.info? 31 = some i ∧ i.zero = some z ∧ z.cells.size = 25 ∧ i.size = 25 ∧ i.bytes = 56 := by
  obtain ⟨i, h1, h2, h3, h4⟩ := infoK_of
  exact ⟨i, _, h1, h2, rfl, h3, h4⟩
set_option maxRecDepth 100000 in
/-- Accounts behind a row of the call's own. -/
theorem append_keys (A : World) (base : Nat) (v : Value) (ps : List Ky) (h : KRow A base v ps) (hb : base ≤ A.heap.size) (sv : Value) (qs : List Ky) (hq : KeysAt A sv qs) (hl : ps.length + qs.length ≤ 100000) :
    ∃ v' w', (Builtin.append_ #[22, 22] 22 #[v, sv]).run Try.prog A = .ok v' w' ∧ KRow w' base v' (ps ++ qs) ∧ A.grownBy w' v.ownBlock ∧ Below base A w' := by
  obtain ⟨i, z, hi, hz, hzs, hsize, hby⟩ := infoKz_of
  have bel : ∀ w', A.grownBy w' v.ownBlock → Below base A w' := fun w' hgr => ⟨hgr.os, hgr.tape, hgr.output, hgr.size, fun k hk => hgr.block k (by omega) (fun e => by have := (h.blockK e.symm).1; omega)⟩
  obtain ⟨a, cap, rfl, h2, h3, _, h5⟩ := hq
  cases qs with
  | nil =>
    obtain ⟨av, cv, rfl⟩ := h.shapeK
    have hr := run_append_nothing (P := Try.prog) A 22 22 22 31 i Try.underlying22 hi av ps.length cv (by
      rcases h.2 with ⟨e, h0⟩ | ⟨g, cap, cur, e, hbg, hg', hnc, _⟩
      · injection e with _ _ e; omega
      · injection e with _ _ e; subst e; exact hnc) (.slice a 0 cap) (by
      cases a with
      | none => exact Src.ofNil _ Try.underlying22 cap
      | some b => exact Src.ofSlice _ Try.underlying22 b 0 cap [] (by simp) (fun j u hj => by simp at hj) (fun u hu => by cases hu))
    refine ⟨_, _, hr, by rw [List.append_nil]; exact h, ⟨rfl, rfl, rfl, Nat.le_refl _, fun _ _ _ => rfl⟩, Below.refl _ _⟩
  | cons q r =>
    obtain ⟨b, rfl, _⟩ := h5 0 q rfl
    obtain ⟨v', w', hr, hown, hgr, hnb⟩ := run_append_src (P := Try.prog) A base 22 22 22 31 i z 25 56 Try.underlying22 hi hz hsize hby hzs (by decide) v ps.length (flatKy ps) h (.slice (some b) (q :: r).length cap) (q :: r).length (by simp) (flatKy (q :: r)) (by
      rw [hsize]
      refine Src.ofSlice _ Try.underlying22 b _ cap _ (flatKy_length _) (fun j u hj => ?_) (fun u hu => ?_)
      · have hj8 : j < (q :: r).length * 25 := by
          have := (List.getElem?_eq_some_iff.1 hj).1
          rwa [flatKy_length] at this
        obtain ⟨y, hy⟩ : ∃ y, (q :: r)[j / 25]? = some y := ⟨_, List.getElem?_eq_getElem (by omega)⟩
        obtain ⟨b', hb', hc⟩ := h5 (j / 25) y hy
        injection hb' with hb'
        subst hb'
        have hf := flatKy_at (q :: r) (j / 25) y (j % 25) hy (by omega)
        rw [show j / 25 * 25 + j % 25 = j by omega, hj] at hf
        have h8 := hc (j % 25) u hf.symm
        rwa [Addr.add_add, show j / 25 * 25 + j % 25 = j by omega] at h8
      · obtain ⟨y, hy, hu'⟩ := List.mem_flatMap.1 hu
        exact kyL_one y u hu') (by omega) (by unfold maxLen; omega) hb
    refine ⟨v', w', hr, ?_, hgr, bel w' hgr⟩
    unfold KRow
    rw [flatKy_append, List.length_append]
    exact hown
set_option maxRecDepth 100000 in
set_option maxHeartbeats 2000000 in
theorem grow_keys (W : World) (n : Nat) (hn : n ≤ 100000) :
    Calls Try.prog 56 #[.slice none 0 0, .int .i64 (n : Int)] W fun e w' => ∃ v', e = .returned v' ∧ KRow w' W.heap.size v' [] ∧ Below W.heap.size W w' := by
  have hnI : (n : Int) ≤ 100000 := by omega
  have hn0 : ¬ ((n : Int) < 0) := by omega
  by_cases h0 : n = 0
  · subst h0
    go_enter Try.func56, Try.ntmps56
    go_wp2_with fail
    go_ret
    exact ⟨_, rfl, KRow.nil _ _, Below.refl _ _⟩
  · have h4 : (n : Int) > 0 := by omega
    obtain ⟨i, z, hi, hz, hzs, hsz, hby⟩ := infoKz_of
    have h := Lib.run_append_grow_zeros (P := Try.prog) W 22 3 22 31 i z .i64 .i64 Try.underlying22 Try.underlying3 hi hz none 0 0 [] (run_firstCells_none W.drew i.size 0 0 0) n (by omega) (by omega) (by omega) (by omega) (by rw [hby]; omega) (by rw [Nat.zero_add]; exact growslice_fits (by omega) (by rw [hby]; omega))
    simp only [Nat.zero_add] at h
    have hge : n ≤ grownCap W n 0 31 := grownCap_ge W n 0 _
    have hcm : grownCap W n 0 31 ≤ maxLen := grownCap_le_maxLen W n 0 _ (by unfold maxLen; omega)
    generalize grownCap W n 0 31 = G at *
    obtain ⟨cs, hcs⟩ : ∃ cs : Array Value, #[] ++ Builtin.zeroCells z.cells n ++ Builtin.zeroCells z.cells (G - n) = cs := ⟨_, rfl⟩
    have hcz : cs.size = G * 25 := by
      rw [← hcs]
      simp only [Array.size_append, size_zeroCells, hzs]
      simp
      omega
    rw [show ([] : List Value).toArray = #[] from rfl, hcs] at h
    have hq0 := (Below.refl W.heap.size W).alloc (Nat.le_refl _) (.cells cs 31)
    have hrow := Lib.hid (show KRow (W.drew.alloc (.cells cs 31)) W.heap.size (.slice (some ⟨W.heap.size, 0, none⟩) 0 G) [] from World.ownsRow_made (base := W.heap.size) (e := 31) (size := 25) W.drew cs G (Nat.le_refl _) hcm hcz)
    have HB := Lib.hid (show Below W.heap.size W (W.drew.alloc (.cells cs 31)) from ⟨rfl, rfl, rfl, by simp, fun k hk => Below.heap_alloc W.drew _ k hk⟩)
    have hG63 : (G : Int) ≤ 9223372036854775807 := by unfold maxLen at hcm; omega
    have hG0 : (0 : Int) ≤ (G : Int) := by omega
    clear hi hz hzs hsz hby hcs hcz hq0 hge hcm h0
    go_enter Try.func56, Try.ntmps56
    go_wp2_with (at_builtin; refine Lib.wpList_append_run _ rfl _ _ _ _ rfl _ _ rfl rfl _ _ h ?_)
    go_ret
    exact ⟨_, rfl, hrow.out, HB.out⟩
def sumK (vs : List (Value × List Ky)) : Nat := (vs.map (·.2.length)).sum
def catK (vs : List (Value × List Ky)) : List Ky := vs.flatMap (·.2)
theorem catK_len : ∀ (vs : List (Value × List Ky)), (catK vs).length = sumK vs
  | [] => rfl
  | x :: l => by
    have := catK_len l
    simp only [catK, sumK, List.flatMap_cons, List.length_append, List.map_cons, List.sum_cons] at this ⊢
    omega
theorem sumK_take (vs : List (Value × List Ky)) (k : Nat) (q : Value × List Ky) (h : vs[k]? = some q) : sumK (vs.take (k + 1)) = sumK (vs.take k) + q.2.length := by
  unfold sumK
  rw [List.take_add_one, h, List.map_append, List.sum_append]
  simp
theorem catK_take (vs : List (Value × List Ky)) (k : Nat) (q : Value × List Ky) (h : vs[k]? = some q) : catK (vs.take (k + 1)) = catK (vs.take k) ++ q.2 := by
  unfold catK
  rw [List.take_add_one, h, List.flatMap_append]
  simp
theorem sumK_le (vs : List (Value × List Ky)) (k : Nat) : sumK (vs.take k) ≤ sumK vs := by
  have e : sumK vs = sumK (vs.take k) + sumK (vs.drop k) := by
    conv => lhs; rw [← List.take_append_drop k vs]
    unfold sumK
    rw [List.map_append, List.sum_append]
  omega
set_option maxRecDepth 100000 in
set_option maxHeartbeats 4000000 in
theorem kconcat_any (W : World) (B : Nat) (vs : List (Value × List Ky)) (hv : ∀ (i : Nat) (q : Value × List Ky), vs[i]? = some q → W.cell? ⟨B, i, none⟩ = some q.1 ∧ KeysAt W q.1 q.2) (hn : vs.length ≤ 1000) (hs : sumK vs ≤ 100000) :
    Calls Try.prog 38 #[.slice (some ⟨B, 0, none⟩) vs.length vs.length] W fun e w' => ∃ v', e = .returned v' ∧ KRow w' W.heap.size v' (catK vs) ∧ Below W.heap.size W w' := by
  have HV := Lib.hid hv
  have HSS := Lib.hid hs
  have HTK := Lib.hid (sumK_le vs)
  obtain ⟨n, hnn⟩ : ∃ n, vs.length = n := ⟨_, rfl⟩
  rw [hnn] at hn ⊢
  have HN := Lib.hid hnn
  have HL := Lib.hid hn
  clear hv hs hnn hn
  go_enter Try.func38, Try.ntmps38
  go_wp2_with fail
  go_loopw [11, 3] (fun i s wr => ∃ k : Nat, k ≤ n ∧ i = .int .i64 (k : Int) ∧ s = .int .i64 ((sumK (vs.take k) : Nat) : Int) ∧ wr = W) (fun i _ _ => n - (intOf i).toNat)
  case atStart => exact ⟨0, by omega, rfl, rfl, rfl⟩
  case round =>
    obtain ⟨k, hk, rfl, rfl, hw⟩ := hrel
    obtain rfl : W = wr := hw.symm
    clear hw
    have hlk : (sumK (vs.take k) : Int) ≤ 100000 := by have := HTK.out k; have := HSS.out; omega
    have hs0 : (0 : Int) ≤ ((sumK (vs.take k) : Nat) : Int) := by omega
    by_cases hkn : k < n
    · have hknI : (k : Int) < (n : Int) := by omega
      have hk0 : (0 : Int) ≤ (k : Int) := by omega
      have hkb : (k : Int) ≤ 1000 := by have := HL.out; omega
      obtain ⟨q, hq⟩ : ∃ q, vs[k]? = some q := ⟨_, List.getElem?_eq_getElem (by have := HN.out; omega)⟩
      obtain ⟨c, hr⟩ := HV.out k q hq
      obtain ⟨a, cap, hqv, hnc, hcm, _, _⟩ := hr
      rw [hqv] at c
      have HT := Lib.hid (sumK_take vs k q hq)
      have hl2 : ((sumK (vs.take k) : Nat) : Int) + (q.2.length : Int) ≤ 100000 := by have := HTK.out (k + 1); have := HSS.out; have := HT.out; omega
      have hl0 : ¬ ((sumK (vs.take k) : Nat) : Int) + (q.2.length : Int) < 0 := by omega
      have ha : (⟨B, 0, none⟩ : Addr).add k = ⟨B, k, none⟩ := by unfold Addr.add; split <;> simp_all
      have HK := Lib.hid hkn
      clear hkn hq hnc hcm hk
      generalize hsum : sumK (vs.take k) = sm at *
      clear hsum
      go_wp2_with fail
      go_roundw
      case rel => exact ⟨k + 1, by have := HK.out; omega, by simp, by rw [HT.out]; simp, by first | trivial | rfl⟩
      case measure => have := HK.out; simp [intOf]; omega
    · obtain rfl : k = n := by omega
      have hkk : ¬ (k : Int) < (k : Int) := by omega
      have HE := Lib.hid (show vs.take k = vs by rw [← HN.out, List.take_length])
      have hG := Lib.hid (grow_keys W (sumK (vs.take k)) (by have := HTK.out k; have := HSS.out; omega))
      generalize hsum : sumK (vs.take k) = sm at *
      clear hsum
      go_wp2_with fail
      refine hG.out.mono ?_
      rintro _ w1 ⟨v1, rfl, hrow, q1⟩
      have R1 := Lib.hid hrow
      have Q1 := Lib.hid q1
      clear hrow q1 hG
      go_wp2_with fail
      go_loopw [27, 6] (fun i v wx => ∃ (m : Nat), m ≤ k ∧ i = .int .i64 (m : Int) ∧ KRow wx W.heap.size v (catK (vs.take m)) ∧ Below W.heap.size W wx) (fun i _ _ => k - (intOf i).toNat)
      case atStart => exact ⟨0, by omega, rfl, R1.out, Q1.out⟩
      case round =>
        obtain ⟨m, hm, rfl, hrow, hq⟩ := hrel
        have RO := Lib.hid hrow
        have HQ := Lib.hid hq
        clear hrow hq
        by_cases hmk : m < k
        · have hmI : (m : Int) < (k : Int) := by omega
          have hm0 : (0 : Int) ≤ (m : Int) := by omega
          have hmb : (m : Int) ≤ 1000 := by have := HL.out; omega
          obtain ⟨q, hq⟩ : ∃ q, vs[m]? = some q := ⟨_, List.getElem?_eq_getElem (by have := HN.out; omega)⟩
          obtain ⟨c, hr⟩ := HV.out m q hq
          have c' := cell_below HQ.out _ _ c
          have ha : (⟨B, 0, none⟩ : Addr).add m = ⟨B, m, none⟩ := by unfold Addr.add; split <;> simp_all
          have HT := Lib.hid (catK_take vs m q hq)
          have hlen : (catK (vs.take m)).length + q.2.length ≤ 100000 := by
            have e := congrArg List.length HT.out
            rw [catK_len, List.length_append] at e
            have := HTK.out (m + 1)
            have := HSS.out
            omega
          obtain ⟨v', w', happ, hrow', _, hbel⟩ := append_keys _ W.heap.size u6 _ RO.out HQ.out.size q.1 q.2 (hr.later HQ.out) hlen
          have R2 := Lib.hid hrow'
          have Q2 := Lib.hid (HQ.out.trans hbel)
          have HK := Lib.hid hmk
          generalize q.1 = qv at *
          clear hmk hq hr hlen hrow' hbel c hm
          go_wp2_with (at_builtin; refine wpList_append_runK rfl (.tmp 31) (.tmp 32) 22 rfl _ _ _ rfl rfl happ ?_)
          go_roundw
          case rel => exact ⟨m + 1, by have := HK.out; omega, by simp, by rw [HT.out]; exact R2.out, Q2.out⟩
          case measure => have := HK.out; simp [intOf]; omega
        · obtain rfl : m = k := by omega
          have hmm : ¬ (m : Int) < (m : Int) := by omega
          have RF := Lib.hid (show KRow wr W.heap.size u6 (catK vs) by have := RO.out; rwa [HE.out] at this)
          go_wp2_with fail
          go_ret
          exact ⟨_, rfl, RF.out, HQ.out⟩
/-! ### set -/
set_option maxRecDepth 100000 in
set_option maxHeartbeats 4000000 in
theorem set_keys (W : World) (sv : Value) (l : List Ky) (hs : KeysAt W sv l) (hl : l.length ≤ 100000) :
    Calls Try.prog 29 #[sv, .func (.func 9) #[] #[]] W fun e w' => ∃ v', e = .returned v' ∧ KeysAt w' v' (setL l) ∧ Below W.heap.size W w' := by
  have hB := Has.new W 37 #[.func (.func 9) #[] #[]]
  have hq0 := (Below.refl W.heap.size W).alloc (Nat.le_refl _) (.cells #[.func (.func 9) #[] #[]] 37)
  have hsz : (W.alloc (.cells #[.func (.func 9) #[] #[]] 37)).heap.size = W.heap.size + 1 := by simp
  obtain ⟨V, hV⟩ : ∃ V, W.alloc (.cells #[.func (.func 9) #[] #[]] 37) = V := ⟨_, rfl⟩
  rw [hV] at hB hq0 hsz
  have Q := Lib.hid hq0
  have HB := Lib.hid hB
  have HSZ := Lib.hid hsz
  have HOK := Lib.hid hs.all
  have HC := Lib.hid (clone_keys V sv l (hs.later hq0) hl)
  obtain ⟨a, cap, rfl, _, _⟩ := hs.shape
  have HLL := Lib.hid hl
  clear hs hq0 hB hsz hl
  generalize hn : l.length = n at HC ⊢
  clear hn
  go_enter Try.func29, Try.ntmps29
  go_wp2_with fail
  refine HC.out.mono ?_
  rintro _ w1 ⟨v1, rfl, hrow, hb1⟩
  have R1 := Lib.hid hrow
  have Q1 := Lib.hid hb1
  have HS1 := Lib.hid (sort_keys w1 V.heap.size v1 l hrow HOK.out HLL.out hb1.size)
  obtain ⟨a1, c1, rfl⟩ := hrow.shapeK
  have c0 := (HB.out.later hb1).cell 0 _ rfl
  have hn1 : l.length = l.length := rfl
  generalize hn : l.length = n1 at HS1 ⊢
  clear hrow hb1 HC hn1
  go_wp2_with fail
  refine HS1.out.mono ?_
  rintro _ w2 ⟨rfl, l2, hrow2, hp, hso, hb2⟩
  have Q2 := Lib.hid ((Q1.out.mono (Nat.le_refl _)).trans hb2)
  have hB2 := HB.out.below Q2.out HB.out.lt
  have HK := Lib.hid (compact_keys w2 V.heap.size (.slice a1 n1 c1) l2 hrow2 (fun x hx => HOK.out x (hp.mem_iff.1 hx)) hso (by rw [hp.length_eq]; exact HLL.out) Q2.out.size W.heap.size (by have := HSZ.out; omega) hB2)
  have HP := Lib.hid hp
  clear hrow2 hp hso hb2 hB2 hn HS1
  go_wp2_with fail
  refine HK.out.mono ?_
  rintro _ w3 ⟨v3, s, rfl, hk3, hu3, hm3, hb3⟩
  have HF := Lib.hid (show KeysAt w3 v3 (setL l) from by
    rw [← setL_eq hu3 (fun x => (hm3 x).trans HP.out.mem_iff)]
    exact hk3)
  have QF := Lib.hid (Q.out.trans ((Q2.out.trans hb3).mono Q.out.size))
  obtain ⟨a3, c3, hv3, _⟩ := hk3
  subst hv3
  clear hu3 hm3 hb3
  go_wp2_with fail
  go_ret
  exact ⟨_, rfl, HF.out, QF.out⟩
end Go.Proofs.Ytbkgipggblphlaa
