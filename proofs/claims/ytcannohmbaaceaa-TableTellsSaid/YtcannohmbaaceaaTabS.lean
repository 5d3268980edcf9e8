/- Get. Conditions: the slots lie in memory. -/
import Derived.Test.YtcannohmbaaceaaTabR
namespace Go.Proofs.Ytcannohmbaaceaa
open Go Go.RowKit
attribute [local go_sem] Oper.semAt_some Grows wide_fn eq4

theorem results_h {fn : Func} {t : Tmp} {tmps : Array Value} {W : World} {B : Nat} {v0 v1 v2 v3 : Value} (h : fn.results = #[ResultVar.cell t 26]) (ht : tmps.getD t undef = .pointer (some ⟨B, 0, none⟩)) (hA : Has W B 26 #[v0, v1, v2, v3]) :
    (results fn tmps).run Try.prog W = .ok (.agg #[v0, v1, v2, v3]) W := by
  have e0 := hA.cell 0 _ rfl
  have e1 := hA.cell 1 _ rfl
  have e2 := hA.cell 2 _ rfl
  have e3 := hA.cell 3 _ rfl
  simp at ht
  simp [results, h, ht, go_sem, e0, e1, e2, e3]
theorem lk_first : ∀ {l : List Sl} {n : Nat} {x : Sl}, l[n]? = some x → (∀ (j : Nat) (y : Sl), j < n → l[j]? = some y → y.1 ≠ x.1) → lk l x.1 = some x.2
  | [], n, x, h, _ => by simp at h
  | y :: l, 0, x, h, _ => by
    simp at h
    subst h
    rw [lk, if_pos rfl]
  | y :: l, n + 1, x, h, hn => by
    rw [lk, if_neg (hn 0 y (by omega) (by simp))]
    exact lk_first (by simpa using h) (fun j z hj hz => hn (j + 1) z (by omega) (by simpa using hz))
theorem lk_no {l : List Sl} {k : Nat} (h : ∀ (j : Nat) (y : Sl), l[j]? = some y → y.1 ≠ k) : lk l k = none :=
  lk_none (fun y hy => by
    obtain ⟨j, hj⟩ := List.getElem?_of_mem hy
    exact h j y hj)
set_option maxRecDepth 100000 in
set_option maxHeartbeats 4000000 in
theorem get_any (W : World) (sv : Value) (l : List Sl) (hs : SlotsAt W sv l) (g : Nat) (hg : W256 g) :
    Calls Try.prog 13 #[sv, wv g] W fun e w' => e = .returned (wv (look l g)) ∧ Below W.heap.size W w' := by
  obtain ⟨a, cap, rfl, hnc, hcm⟩ := hs.shape
  have HS := Lib.hid hs
  obtain ⟨n, hn⟩ : ∃ n, l.length = n := ⟨_, rfl⟩
  rw [hn] at HS hnc ⊢
  have HN := Lib.hid hn
  have hlc := Lib.hid (Nat.le_trans hnc hcm)
  have HG := Lib.hid hg
  clear hs hnc hcm hn hg
  have hfin := Lib.hid (show ∀ X v, Below W.heap.size W X → look l g = v → (Ending.returned (wv v) = .returned (wv (look l g)) ∧ Below W.heap.size W X) from fun X v hX h => ⟨by rw [h], hX⟩)
  obtain ⟨Post, hPost⟩ : ∃ Post : Ending → World → Prop, (fun (e : Ending) (w' : World) => e = .returned (wv (look l g)) ∧ Below W.heap.size W w') = Post := ⟨_, rfl⟩
  replace hfin := Lib.hid (show ∀ X v, Below W.heap.size W X → look l g = v → Post (.returned (wv v)) X by rw [← hPost]; exact hfin.out)
  rw [hPost]
  clear hPost
  have hEQ := Lib.hid (fun (x : Nat) (hx : W256 x) => eqv_w x g hx HG.out)
  unfold wv
  generalize hg0 : lim g 0 = g0 at hEQ ⊢
  generalize hg1 : lim g 1 = g1 at hEQ ⊢
  generalize hg2 : lim g 2 = g2 at hEQ ⊢
  generalize hg3 : lim g 3 = g3 at hEQ ⊢
  clear hg0 hg1 hg2 hg3
  have K0 := (Has.new W 26 #[.int .u64 g0, .int .u64 g1, .int .u64 g2, .int .u64 g3]).alloc (.cells #[.int .u64 0, .int .u64 0, .int .u64 0, .int .u64 0] 26)
  have Z0 := Has.new (W.alloc (.cells #[.int .u64 g0, .int .u64 g1, .int .u64 g2, .int .u64 g3] 26)) 26 #[.int .u64 0, .int .u64 0, .int .u64 0, .int .u64 0]
  simp only [World.size_alloc] at Z0
  have q0 := ((Below.refl W.heap.size W).alloc (Nat.le_refl _) (.cells #[.int .u64 g0, .int .u64 g1, .int .u64 g2, .int .u64 g3] 26)).alloc (by simp) (.cells #[.int .u64 0, .int .u64 0, .int .u64 0, .int .u64 0] 26)
  have hsz0 : ((W.alloc (.cells #[.int .u64 g0, .int .u64 g1, .int .u64 g2, .int .u64 g3] 26)).alloc (.cells #[.int .u64 0, .int .u64 0, .int .u64 0, .int .u64 0] 26)).heap.size = W.heap.size + 1 + 1 := by simp
  obtain ⟨V, hV⟩ : ∃ V, (W.alloc (.cells #[.int .u64 g0, .int .u64 g1, .int .u64 g2, .int .u64 g3] 26)).alloc (.cells #[.int .u64 0, .int .u64 0, .int .u64 0, .int .u64 0] 26) = V := ⟨_, rfl⟩
  rw [hV] at K0 Z0 q0 hsz0
  have KK := Lib.hid K0
  have ZZ := Lib.hid Z0
  have QQ := Lib.hid q0
  have hsz := Lib.hid hsz0
  clear K0 Z0 q0 hsz0
  go_enter Try.func13, Try.ntmps13
  go_wp2_with fail
  clear hV
  go_loopw [9] (fun i wr => ∃ k : Nat, k ≤ n ∧ i = .int .i64 (k : Int) ∧ (∀ (j : Nat) (x : Sl), j < k → l[j]? = some x → x.1 ≠ g) ∧ Below V.heap.size V wr) (fun i _ => n - (intOf i).toNat)
  case atStart => exact ⟨0, by omega, rfl, fun j x h => absurd h (by omega), Below.refl _ _⟩
  case round =>
    obtain ⟨k, hk, rfl, hlt, hq⟩ := hrel
    have HLT := Lib.hid hlt
    have HQ := Lib.hid hq
    clear hlt hq
    have HK := Lib.hid (KK.out.later HQ.out)
    have HZ := Lib.hid (ZZ.out.later HQ.out)
    have QW := Lib.hid (QQ.out.trans (HQ.out.mono QQ.out.size))
    have hsr := Lib.hid (show W.heap.size + 1 + 1 ≤ wr.heap.size by have := HQ.out.size; have := hsz.out; omega)
    by_cases hkn : k < n
    · have hknI : (k : Int) < (n : Int) := by omega
      have hk0 : (0 : Int) ≤ (k : Int) := by omega
      have hkb : (k : Int) ≤ 9223372036854775806 := by have := hlc.out; omega
      obtain ⟨x, hx⟩ : ∃ x, l[k]? = some x := ⟨_, List.getElem?_eq_getElem (by have := HN.out; omega)⟩
      obtain ⟨b, rfl, c0, c1, c2, c3, c4, c5, c6, c7⟩ := (HS.out.later QW.out).at hx
      have wx := HS.out.wide hx
      have hE := hEQ.out x.1 wx.1
      have HN1 := Lib.hid hkn
      have HX := Lib.hid hx
      have hW2 := Lib.hid (fun (h : x.1 = g) => show look l g = x.2 from by
        unfold look
        rw [← h, lk_first HX.out (fun j y hj hy => by rw [h]; exact HLT.out j y hj hy)]
        rfl)
      have hF2 := Lib.hid (fun (X : World) (hX : Below W.heap.size W X) (h : x.1 = g) => hfin.out X x.2 hX (hW2.out h))
      unfold wv at hF2
      clear hkn hx wx hk
      generalize lim x.1 0 = x0 at *
      generalize lim x.1 1 = x1 at *
      generalize lim x.1 2 = x2 at *
      generalize lim x.1 3 = x3 at *
      generalize lim x.2 0 = x4 at *
      generalize lim x.2 1 = x5 at *
      generalize lim x.2 2 = x6 at *
      generalize lim x.2 3 = x7 at *
      have N := Has.new wr 31 #[.int .u64 0, .int .u64 0, .int .u64 0, .int .u64 0, .int .u64 0, .int .u64 0, .int .u64 0, .int .u64 0]
      have M := Has.new wr 31 #[.int .u64 x0, .int .u64 x1, .int .u64 x2, .int .u64 x3, .int .u64 x4, .int .u64 x5, .int .u64 x6, .int .u64 x7]
      have qM := (Below.refl wr.heap.size wr).alloc (Nat.le_refl _) (.cells #[.int .u64 x0, .int .u64 x1, .int .u64 x2, .int .u64 x3, .int .u64 x4, .int .u64 x5, .int .u64 x6, .int .u64 x7] 31)
      have n0 := N.cell 0 _ rfl
      have f0 := N.frozen 0
      have m0 := M.cell 0 _ rfl
      have p0 := M.frozen 0
      have n1 := N.cell 1 _ rfl
      have f1 := N.frozen 1
      have m1 := M.cell 1 _ rfl
      have p1 := M.frozen 1
      have n2 := N.cell 2 _ rfl
      have f2 := N.frozen 2
      have m2 := M.cell 2 _ rfl
      have p2 := M.frozen 2
      have n3 := N.cell 3 _ rfl
      have f3 := N.frozen 3
      have m3 := M.cell 3 _ rfl
      have p3 := M.frozen 3
      have n4 := N.cell 4 _ rfl
      have f4 := N.frozen 4
      have m4 := M.cell 4 _ rfl
      have p4 := M.frozen 4
      have n5 := N.cell 5 _ rfl
      have f5 := N.frozen 5
      have m5 := M.cell 5 _ rfl
      have p5 := M.frozen 5
      have n6 := N.cell 6 _ rfl
      have f6 := N.frozen 6
      have m6 := M.cell 6 _ rfl
      have p6 := M.frozen 6
      have n7 := N.cell 7 _ rfl
      have f7 := N.frozen 7
      have m7 := M.cell 7 _ rfl
      have p7 := M.frozen 7
      have K1 := Lib.hid (HK.out.later qM)
      have Z1 := Lib.hid (HZ.out.later qM)
      have Q1 := Lib.hid (QW.out.trans (qM.mono QW.out.size))
      have Q1' := Lib.hid (HQ.out.trans (qM.mono HQ.out.size))
      have k0 := K1.out.cell 0 _ rfl
      have z0 := Z1.out.cell 0 _ rfl
      have y0 := Z1.out.frozen 0
      have k1 := K1.out.cell 1 _ rfl
      have z1 := Z1.out.cell 1 _ rfl
      have y1 := Z1.out.frozen 1
      have k2 := K1.out.cell 2 _ rfl
      have z2 := Z1.out.cell 2 _ rfl
      have y2 := Z1.out.frozen 2
      have k3 := K1.out.cell 3 _ rfl
      have z3 := Z1.out.cell 3 _ rfl
      have y3 := Z1.out.frozen 3
      replace N := Lib.hid N
      replace M := Lib.hid M
      replace qM := Lib.hid qM
      by_cases hxg : x.1 = g
      · rw [decide_eq_true hxg] at hE
        have S := Lib.hid ((((Z1.out.set 0 (.int .u64 x4)).set 1 (.int .u64 x5)).set 2 (.int .u64 x6)).set 3 (.int .u64 x7))
        have QS := Lib.hid ((((Q1.out.setCell (p := ⟨W.heap.size + 1, 0, none⟩) (by simp) (.int .u64 x4)).setCell (p := ⟨W.heap.size + 1, 1, none⟩) (by simp) (.int .u64 x5)).setCell (p := ⟨W.heap.size + 1, 2, none⟩) (by simp) (.int .u64 x6)).setCell (p := ⟨W.heap.size + 1, 3, none⟩) (by simp) (.int .u64 x7))
        have HXG := Lib.hid hxg
        clear hxg
        go_wp2_with fail
        refine bodyPost_ret (results_h rfl rfl S.out) rfl ?_
        exact hF2.out _ QS.out HXG.out
      · rw [decide_eq_false hxg] at hE
        have HXG := Lib.hid hxg
        clear hxg
        go_wp2_with fail
        go_roundw
        case rel => exact ⟨k + 1, by have := HN1.out; omega, by simp, fun j y hj hy => by
          by_cases hjk : j < k
          · exact HLT.out j y hjk hy
          · obtain rfl : j = k := by omega
            rw [HX.out] at hy
            injection hy with hy
            subst hy
            exact HXG.out, Q1'.out⟩
        case measure => have := HN1.out; simp [intOf]; omega
    · have hknI : ¬ (k : Int) < (n : Int) := by omega
      have hno := Lib.hid (show look l g = 0 from by
        unfold look
        rw [lk_no (fun j y hy => HLT.out j y (by have := (List.getElem?_eq_some_iff.1 hy).1; have := HN.out; omega) hy)]
        rfl)
      have hF0 := Lib.hid (fun (X : World) (hX : Below W.heap.size W X) => hfin.out X 0 hX hno.out)
      unfold wv at hF0
      simp only [lim_zero] at hF0
      have z0 := HZ.out.cell 0 _ rfl
      have z1 := HZ.out.cell 1 _ rfl
      have z2 := HZ.out.cell 2 _ rfl
      have z3 := HZ.out.cell 3 _ rfl
      have y0 := HZ.out.frozen 0
      have y1 := HZ.out.frozen 1
      have y2 := HZ.out.frozen 2
      have y3 := HZ.out.frozen 3
      have S := Lib.hid ((((HZ.out.set 0 (.int .u64 0)).set 1 (.int .u64 0)).set 2 (.int .u64 0)).set 3 (.int .u64 0))
      have QS := Lib.hid ((((QW.out.setCell (p := ⟨W.heap.size + 1, 0, none⟩) (by simp) (.int .u64 0)).setCell (p := ⟨W.heap.size + 1, 1, none⟩) (by simp) (.int .u64 0)).setCell (p := ⟨W.heap.size + 1, 2, none⟩) (by simp) (.int .u64 0)).setCell (p := ⟨W.heap.size + 1, 3, none⟩) (by simp) (.int .u64 0))
      go_wp2_with fail
      refine bodyPost_ret (results_h rfl rfl S.out) rfl ?_
      exact hF0.out _ QS.out
end Go.Proofs.Ytcannohmbaaceaa
