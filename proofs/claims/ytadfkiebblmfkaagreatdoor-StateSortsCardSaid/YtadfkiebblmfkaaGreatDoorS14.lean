import Derived.Test.YtadfkiebblmfkaaGreatDoorS13
import Derived.Test.YtadfkiebblmfkaaGreatDoorS06
import Derived.Test.YtadfkiebblmfkaaGreatDoorS11
import Derived.Test.YtadfkiebblmfkaaGreatDoorS07
import Derived.Deep.Upon
import Derived.Lib.SliceRun
/- Get. Conditions: the slots lie in memory. -/
namespace Go.Proofs.YtadfkiebblmfkaaGreatDoor
open Go Go.RowKit
attribute [local go_sem] Oper.semAt_some Grows wide_fn eq4

theorem results_h {fn : Func} {t : Tmp} {tmps : Array Value} {W : World} {B : Nat} {v0 v1 v2 v3 : Value} (h : fn.results = #[ResultVar.cell t 28]) (ht : tmps.getD t undef = .pointer (some ⟨B, 0, none⟩)) (hA : Has W B 28 #[v0, v1, v2, v3]) :
    (results fn tmps).run Tryz.prog W = .ok (.agg #[v0, v1, v2, v3]) W := by
  have e0 := hA.cell 0 _ rfl
  have e1 := hA.cell 1 _ rfl
  have e2 := hA.cell 2 _ rfl
  have e3 := hA.cell 3 _ rfl
  simp at ht
  simp [results, h, ht, go_sem, e0, e1, e2, e3]
theorem lk_first : ∀ {l : List Sl} {n : Nat} {x : Sl}, l[n]? = some x → (∀ (j : Nat) (y : Sl), j < n → l[j]? = some y → y.1 ≠ x.1) → lk l x.1 = some x.2
  | [], n, x, h, _ => by simp at h
  | y :: l, 0, x, h, _ => by
    simp at h
    subst h
    rw [lk, if_pos rfl]
  | y :: l, n + 1, x, h, hn => by
    rw [lk, if_neg (hn 0 y (by omega) (by simp))]
    exact lk_first (by simpa using h) (fun j z hj hz => hn (j + 1) z (by omega) (by simpa using hz))
theorem lk_no {l : List Sl} {k : Nat} (h : ∀ (j : Nat) (y : Sl), l[j]? = some y → y.1 ≠ k) : lk l k = none :=
  lk_none (fun y hy => by
    obtain ⟨j, hj⟩ := List.getElem?_of_mem hy
    exact h j y hj)
set_option maxRecDepth 100000 in
set_option maxHeartbeats 4000000 in
theorem get_any (W : World) (sv : Value) (l : List Sl) (hs : SlotsAt W sv l) (g : Nat) (hg : W256 g) :
    Calls Tryz.prog 93 #[sv, wv g] W fun e w' => e = .returned (wv (look l g)) ∧ Below W.heap.size W w' := by
  obtain ⟨a, cap, rfl, hnc, hcm⟩ := hs.shape
  have HS := Lib.hid hs
  obtain ⟨n, hn⟩ : ∃ n, l.length = n := ⟨_, rfl⟩
  rw [hn] at HS hnc ⊢
  have HN := Lib.hid hn
  have hlc := Lib.hid (Nat.le_trans hnc hcm)
  have HG := Lib.hid hg
  clear hs hnc hcm hn hg
  have hfin := Lib.hid (show ∀ X v, Below W.heap.size W X → look l g = v → (Ending.returned (wv v) = .returned (wv (look l g)) ∧ Below W.heap.size W X) from fun X v hX h => ⟨by rw [h], hX⟩)
  obtain ⟨Post, hPost⟩ : ∃ Post : Ending → World → Prop, (fun (e : Ending) (w' : World) => e = .returned (wv (look l g)) ∧ Below W.heap.size W w') = Post := ⟨_, rfl⟩
  replace hfin := Lib.hid (show ∀ X v, Below W.heap.size W X → look l g = v → Post (.returned (wv v)) X by rw [← hPost]; exact hfin.out)
  rw [hPost]
  clear hPost
  have hEQ := Lib.hid (fun (x : Nat) (hx : W256 x) => eqv_w x g hx HG.out)
  unfold wv
  generalize hg0 : lim g 0 = g0 at hEQ ⊢
  generalize hg1 : lim g 1 = g1 at hEQ ⊢
  generalize hg2 : lim g 2 = g2 at hEQ ⊢
  generalize hg3 : lim g 3 = g3 at hEQ ⊢
  clear hg0 hg1 hg2 hg3
  have K0 := (Has.new W 28 #[.int .u64 g0, .int .u64 g1, .int .u64 g2, .int .u64 g3]).alloc (.cells #[.int .u64 0, .int .u64 0, .int .u64 0, .int .u64 0] 28)
  have Z0 := Has.new (W.alloc (.cells #[.int .u64 g0, .int .u64 g1, .int .u64 g2, .int .u64 g3] 28)) 28 #[.int .u64 0, .int .u64 0, .int .u64 0, .int .u64 0]
  simp only [World.size_alloc] at Z0
  have q0 := ((Below.refl W.heap.size W).alloc (Nat.le_refl _) (.cells #[.int .u64 g0, .int .u64 g1, .int .u64 g2, .int .u64 g3] 28)).alloc (by simp) (.cells #[.int .u64 0, .int .u64 0, .int .u64 0, .int .u64 0] 28)
  have hsz0 : ((W.alloc (.cells #[.int .u64 g0, .int .u64 g1, .int .u64 g2, .int .u64 g3] 28)).alloc (.cells #[.int .u64 0, .int .u64 0, .int .u64 0, .int .u64 0] 28)).heap.size = W.heap.size + 1 + 1 := by simp
  obtain ⟨V, hV⟩ : ∃ V, (W.alloc (.cells #[.int .u64 g0, .int .u64 g1, .int .u64 g2, .int .u64 g3] 28)).alloc (.cells #[.int .u64 0, .int .u64 0, .int .u64 0, .int .u64 0] 28) = V := ⟨_, rfl⟩
  rw [hV] at K0 Z0 q0 hsz0
  have KK := Lib.hid K0
  have ZZ := Lib.hid Z0
  have QQ := Lib.hid q0
  have hsz := Lib.hid hsz0
  clear K0 Z0 q0 hsz0
  go_enter Tryz.func93, Tryz.ntmps93
  go_wp2_with fail
  clear hV
  go_loopw [9] (fun i wr => ∃ k : Nat, k ≤ n ∧ i = .int .i64 (k : Int) ∧ (∀ (j : Nat) (x : Sl), j < k → l[j]? = some x → x.1 ≠ g) ∧ Below V.heap.size V wr) (fun i _ => n - (intOf i).toNat)
  case atStart => exact ⟨0, by omega, rfl, fun j x h => absurd h (by omega), Below.refl _ _⟩
  case round =>
    obtain ⟨k, hk, rfl, hlt, hq⟩ := hrel
    have HLT := Lib.hid hlt
    have HQ := Lib.hid hq
    clear hlt hq
    have HK := Lib.hid (KK.out.later HQ.out)
    have HZ := Lib.hid (ZZ.out.later HQ.out)
    have QW := Lib.hid (QQ.out.trans (HQ.out.mono QQ.out.size))
    have hsr := Lib.hid (show W.heap.size + 1 + 1 ≤ wr.heap.size by have := HQ.out.size; have := hsz.out; omega)
    by_cases hkn : k < n
    · have hknI : (k : Int) < (n : Int) := by omega
      have hk0 : (0 : Int) ≤ (k : Int) := by omega
      have hkb : (k : Int) ≤ 9223372036854775806 := by have := hlc.out; omega
      obtain ⟨x, hx⟩ : ∃ x, l[k]? = some x := ⟨_, List.getElem?_eq_getElem (by have := HN.out; omega)⟩
      obtain ⟨b, rfl, c0, c1, c2, c3, c4, c5, c6, c7⟩ := (HS.out.later QW.out).at hx
      have wx := HS.out.wide hx
      have hE := hEQ.out x.1 wx.1
      have HN1 := Lib.hid hkn
      have HX := Lib.hid hx
      have hW2 := Lib.hid (fun (h : x.1 = g) => show look l g = x.2 from by
        unfold look
        rw [← h, lk_first HX.out (fun j y hj hy => by rw [h]; exact HLT.out j y hj hy)]
        rfl)
      have hF2 := Lib.hid (fun (X : World) (hX : Below W.heap.size W X) (h : x.1 = g) => hfin.out X x.2 hX (hW2.out h))
      unfold wv at hF2
      clear hkn hx wx hk
      generalize lim x.1 0 = x0 at *
      generalize lim x.1 1 = x1 at *
      generalize lim x.1 2 = x2 at *
      generalize lim x.1 3 = x3 at *
      generalize lim x.2 0 = x4 at *
      generalize lim x.2 1 = x5 at *
      generalize lim x.2 2 = x6 at *
      generalize lim x.2 3 = x7 at *
      have N := Has.new wr 67 #[.int .u64 0, .int .u64 0, .int .u64 0, .int .u64 0, .int .u64 0, .int .u64 0, .int .u64 0, .int .u64 0]
      have M := Has.new wr 67 #[.int .u64 x0, .int .u64 x1, .int .u64 x2, .int .u64 x3, .int .u64 x4, .int .u64 x5, .int .u64 x6, .int .u64 x7]
      have qM := (Below.refl wr.heap.size wr).alloc (Nat.le_refl _) (.cells #[.int .u64 x0, .int .u64 x1, .int .u64 x2, .int .u64 x3, .int .u64 x4, .int .u64 x5, .int .u64 x6, .int .u64 x7] 67)
      have n0 := N.cell 0 _ rfl
      have f0 := N.frozen 0
      have m0 := M.cell 0 _ rfl
      have p0 := M.frozen 0
      have n1 := N.cell 1 _ rfl
      have f1 := N.frozen 1
      have m1 := M.cell 1 _ rfl
      have p1 := M.frozen 1
      have n2 := N.cell 2 _ rfl
      have f2 := N.frozen 2
      have m2 := M.cell 2 _ rfl
      have p2 := M.frozen 2
      have n3 := N.cell 3 _ rfl
      have f3 := N.frozen 3
      have m3 := M.cell 3 _ rfl
      have p3 := M.frozen 3
      have n4 := N.cell 4 _ rfl
      have f4 := N.frozen 4
      have m4 := M.cell 4 _ rfl
      have p4 := M.frozen 4
      have n5 := N.cell 5 _ rfl
      have f5 := N.frozen 5
      have m5 := M.cell 5 _ rfl
      have p5 := M.frozen 5
      have n6 := N.cell 6 _ rfl
      have f6 := N.frozen 6
      have m6 := M.cell 6 _ rfl
      have p6 := M.frozen 6
      have n7 := N.cell 7 _ rfl
      have f7 := N.frozen 7
      have m7 := M.cell 7 _ rfl
      have p7 := M.frozen 7
      have K1 := Lib.hid (HK.out.later qM)
      have Z1 := Lib.hid (HZ.out.later qM)
      have Q1 := Lib.hid (QW.out.trans (qM.mono QW.out.size))
      have Q1' := Lib.hid (HQ.out.trans (qM.mono HQ.out.size))
      have k0 := K1.out.cell 0 _ rfl
      have z0 := Z1.out.cell 0 _ rfl
      have y0 := Z1.out.frozen 0
      have k1 := K1.out.cell 1 _ rfl
      have z1 := Z1.out.cell 1 _ rfl
      have y1 := Z1.out.frozen 1
      have k2 := K1.out.cell 2 _ rfl
      have z2 := Z1.out.cell 2 _ rfl
      have y2 := Z1.out.frozen 2
      have k3 := K1.out.cell 3 _ rfl
      have z3 := Z1.out.cell 3 _ rfl
      have y3 := Z1.out.frozen 3
      replace N := Lib.hid N
      replace M := Lib.hid M
      replace qM := Lib.hid qM
      by_cases hxg : x.1 = g
      · rw [decide_eq_true hxg] at hE
        have S := Lib.hid ((((Z1.out.set 0 (.int .u64 x4)).set 1 (.int .u64 x5)).set 2 (.int .u64 x6)).set 3 (.int .u64 x7))
        have QS := Lib.hid ((((Q1.out.setCell (p := ⟨W.heap.size + 1, 0, none⟩) (by simp) (.int .u64 x4)).setCell (p := ⟨W.heap.size + 1, 1, none⟩) (by simp) (.int .u64 x5)).setCell (p := ⟨W.heap.size + 1, 2, none⟩) (by simp) (.int .u64 x6)).setCell (p := ⟨W.heap.size + 1, 3, none⟩) (by simp) (.int .u64 x7))
        have HXG := Lib.hid hxg
        clear hxg
        go_wp2_with fail
        refine bodyPost_ret (results_h rfl rfl S.out) rfl ?_
        exact hF2.out _ QS.out HXG.out
      · rw [decide_eq_false hxg] at hE
        have HXG := Lib.hid hxg
        clear hxg
        go_wp2_with fail
        go_roundw
        case rel => exact ⟨k + 1, by have := HN1.out; omega, by simp, fun j y hj hy => by
          by_cases hjk : j < k
          · exact HLT.out j y hjk hy
          · obtain rfl : j = k := by omega
            rw [HX.out] at hy
            injection hy with hy
            subst hy
            exact HXG.out, Q1'.out⟩
        case measure => have := HN1.out; simp [intOf]; omega
    · have hknI : ¬ (k : Int) < (n : Int) := by omega
      have hno := Lib.hid (show look l g = 0 from by
        unfold look
        rw [lk_no (fun j y hy => HLT.out j y (by have := (List.getElem?_eq_some_iff.1 hy).1; have := HN.out; omega) hy)]
        rfl)
      have hF0 := Lib.hid (fun (X : World) (hX : Below W.heap.size W X) => hfin.out X 0 hX hno.out)
      unfold wv at hF0
      simp only [lim_zero] at hF0
      have z0 := HZ.out.cell 0 _ rfl
      have z1 := HZ.out.cell 1 _ rfl
      have z2 := HZ.out.cell 2 _ rfl
      have z3 := HZ.out.cell 3 _ rfl
      have y0 := HZ.out.frozen 0
      have y1 := HZ.out.frozen 1
      have y2 := HZ.out.frozen 2
      have y3 := HZ.out.frozen 3
      have S := Lib.hid ((((HZ.out.set 0 (.int .u64 0)).set 1 (.int .u64 0)).set 2 (.int .u64 0)).set 3 (.int .u64 0))
      have QS := Lib.hid ((((QW.out.setCell (p := ⟨W.heap.size + 1, 0, none⟩) (by simp) (.int .u64 0)).setCell (p := ⟨W.heap.size + 1, 1, none⟩) (by simp) (.int .u64 0)).setCell (p := ⟨W.heap.size + 1, 2, none⟩) (by simp) (.int .u64 0)).setCell (p := ⟨W.heap.size + 1, 3, none⟩) (by simp) (.int .u64 0))
      go_wp2_with fail
      refine bodyPost_ret (results_h rfl rfl S.out) rfl ?_
      exact hF0.out _ QS.out
end Go.Proofs.YtadfkiebblmfkaaGreatDoor

/- The laws' helper 'pick'. -/
namespace Go.Proofs.YtadfkiebblmfkaaGreatDoor
open Go Go.RowKit
attribute [local go_sem] Oper.semAt_some Grows wide_fn

/-- What a raw number speaks of, of m things. -/
def pickN (c m : Int) : Int := (if c < 0 then -(c + 1) else c) % m
theorem pickN_range (c m : Int) (hm : 0 < m) : 0 ≤ pickN c m ∧ pickN c m < m := by
  unfold pickN
  exact ⟨Int.emod_nonneg _ (by omega), Int.emod_lt_of_pos _ hm⟩
theorem ofN_nat (n : Nat) : ofN (n : Int) = n := by unfold ofN; rw [if_neg (by omega)]; omega
theorem pick_ret (c : Int) (hc : I64 c) (m : Int) (hm : 0 < m) (hm2 : m ≤ 4611686018427387903) : Ret Tryz.prog 54 #[.int .i64 c, .int .i64 m] (.int .i64 (pickN c m)) := by
  refine Ret.of_same fun w => ?_
  unfold I64 at hc
  unfold pickN
  by_cases h : c < 0
  · rw [if_pos h]
    have h0 : (0 : Int) ≤ -(c + 1) := by omega
    have h1 : -(c + 1) < 9223372036854775808 := by omega
    have q0 := Int.emod_nonneg (-(c + 1)) (show m ≠ 0 by omega)
    have q1 := Int.emod_lt_of_pos (-(c + 1)) hm
    have e := Int.tmod_eq_emod_of_nonneg h0 (b := m)
    go_enter Tryz.func54, Tryz.ntmps54
    go_wp2
    go_ret
    exact ⟨rfl, rfl⟩
  · rw [if_neg h]
    have q0 := Int.emod_nonneg c (show m ≠ 0 by omega)
    have q1 := Int.emod_lt_of_pos c hm
    have e := Int.tmod_eq_emod_of_nonneg (show 0 ≤ c by omega) (b := m)
    go_enter Tryz.func54, Tryz.ntmps54
    go_wp2
    go_ret
    exact ⟨rfl, rfl⟩

end Go.Proofs.YtadfkiebblmfkaaGreatDoor

/- Slots put in their order, one behind the other; a slot appended to a row of the call's own. Conditions: none. -/
namespace Go.Proofs.YtadfkiebblmfkaaGreatDoor
open Go Go.RowKit

/-- What a loop over slots in their order has made of the first k, where x is put among them. -/
structure Ins (x : Sl) (l : List Sl) (k : Nat) (now : List Sl) (done : Bool) : Prop where
  rise : Rise now
  len : now.length ≤ k + (if done = true then 1 else 0)
  ahead : ∀ y ∈ now, ∀ (j : Nat) (z : Sl), k ≤ j → l[j]? = some z → y.1 < z.1
  notyet : done = false → ∀ y ∈ now, y.1 < x.1
  yet : done = true → ∀ (j : Nat) (z : Sl), k ≤ j → l[j]? = some z → x.1 < z.1
  from' : ∀ y ∈ now, y = x ∨ y ∈ l
theorem Rise.snoc {l : List Sl} {x : Sl} (h : Rise l) (hx : ∀ y ∈ l, y.1 < x.1) : Rise (l ++ [x]) := by
  unfold Rise at *
  rw [List.pairwise_append]
  exact ⟨h, by simp, fun a ha b hb => by simp at hb; subst hb; exact hx a ha⟩
theorem rise_lt_at {l : List Sl} (h : Rise l) {i j : Nat} {y z : Sl} (hy : l[i]? = some y) (hz : l[j]? = some z) (hij : i < j) : y.1 < z.1 := by
  have := List.pairwise_iff_getElem.1 h i j (List.getElem?_eq_some_iff.1 hy).1 (List.getElem?_eq_some_iff.1 hz).1 hij
  rw [(List.getElem?_eq_some_iff.1 hy).2, (List.getElem?_eq_some_iff.1 hz).2] at this
  exact this
theorem Ins.start (x : Sl) (l : List Sl) : Ins x l 0 [] false :=
  ⟨by unfold Rise; simp, by simp, by simp, by simp, by simp, by simp⟩
variable {x y : Sl} {l now : List Sl} {k : Nat} {done : Bool}
/-- The slot is put ahead of this one. -/
theorem Ins.put (h : Ins x l k now false) (hl : Rise l) (hy : l[k]? = some y) (hxy : x.1 < y.1) : Ins x l k (now ++ [x]) true :=
  ⟨h.rise.snoc (h.notyet rfl), by have := h.len; simp at this ⊢; omega, fun a ha j z hj hz => by
    rcases List.mem_append.1 ha with ha | ha
    · exact h.ahead a ha j z hj hz
    · simp at ha; subst ha
      rcases Nat.lt_or_eq_of_le hj with hj | rfl
      · exact Nat.lt_trans hxy (rise_lt_at hl hy hz hj)
      · rw [hy] at hz; injection hz with hz; subst hz; exact hxy, by simp, fun _ j z hj hz => by
      rcases Nat.lt_or_eq_of_le hj with hj | rfl
      · exact Nat.lt_trans hxy (rise_lt_at hl hy hz hj)
      · rw [hy] at hz; injection hz with hz; subst hz; exact hxy, fun a ha => by
    rcases List.mem_append.1 ha with ha | ha
    · exact h.from' a ha
    · simp at ha; exact .inl ha⟩
/-- It takes this one's place. -/
theorem Ins.same (h : Ins x l k now false) (hl : Rise l) (hy : l[k]? = some y) (hxy : x.1 = y.1) : Ins x l (k + 1) (now ++ [x]) true :=
  ⟨h.rise.snoc (h.notyet rfl), by have := h.len; simp at this ⊢; omega, fun a ha j z hj hz => by
    rcases List.mem_append.1 ha with ha | ha
    · exact h.ahead a ha j z (by omega) hz
    · simp at ha; subst ha
      rw [hxy]
      exact rise_lt_at hl hy hz (by omega), by simp, fun _ j z hj hz => by
      rw [hxy]
      exact rise_lt_at hl hy hz (by omega), fun a ha => by
    rcases List.mem_append.1 ha with ha | ha
    · exact h.from' a ha
    · simp at ha; exact .inl ha⟩
/-- This one stays. -/
theorem Ins.stay (h : Ins x l k now done) (hl : Rise l) (hy : l[k]? = some y) (hd : done = false → y.1 < x.1) : Ins x l (k + 1) (now ++ [y]) done :=
  ⟨h.rise.snoc (fun a ha => h.ahead a ha k y (Nat.le_refl _) hy), by have := h.len; simp at this ⊢; omega, fun a ha j z hj hz => by
    rcases List.mem_append.1 ha with ha | ha
    · exact h.ahead a ha j z (by omega) hz
    · simp at ha; subst ha
      exact rise_lt_at hl hy hz (by omega), fun e a ha => by
    rcases List.mem_append.1 ha with ha | ha
    · exact h.notyet e a ha
    · simp at ha; subst ha; exact hd e, fun e j z hj hz => h.yet e j z (by omega) hz, fun a ha => by
    rcases List.mem_append.1 ha with ha | ha
    · exact h.from' a ha
    · simp at ha; subst ha; exact .inr (List.mem_of_getElem? hy)⟩
/-- What there is at the end. -/
theorem Ins.end' (h : Ins x l l.length now false) : Rise (now ++ [x]) ∧ (now ++ [x]).length ≤ l.length + 1 ∧ ∀ y ∈ now ++ [x], y = x ∨ y ∈ l :=
  ⟨h.rise.snoc (h.notyet rfl), by have := h.len; simp at this ⊢; omega, fun a ha => by
    rcases List.mem_append.1 ha with ha | ha
    · exact h.from' a ha
    · simp at ha; exact .inl ha⟩
theorem Ins.endT (h : Ins x l l.length now true) : Rise now ∧ now.length ≤ l.length + 1 ∧ ∀ y ∈ now, y = x ∨ y ∈ l :=
  ⟨h.rise, by have := h.len; simpa using this, h.from'⟩

/-- A slot behind a row of the call's own. -/
theorem push_slot (A : World) (base : Nat) (v : Value) (l : List Sl) (h : RowT A base v l) (hb : base ≤ A.heap.size) (hl : l.length ≤ 100000) (y : Sl) :
    ∃ v' w', (Builtin.append_ #[29, 29] 29 #[v, .slice (some ⟨A.heap.size, 0, none⟩) 1 1]).run Tryz.prog (A.alloc (.cells (slC y).toArray 67)) = .ok v' w' ∧ RowT w' base v' (l ++ [y]) ∧ Below base A w' := by
  have NS := Has.new A 67 (slC y).toArray
  have q9 := (Below.refl A.heap.size A).alloc (Nat.le_refl _) (.cells (slC y).toArray 67)
  obtain ⟨i, hi, hz, hsize, hby⟩ := infoS_of
  have hrow9 := h.later q9
  obtain ⟨v', w', hr, hown, hgr, hnb⟩ := run_append_src (P := Tryz.prog) (A.alloc (.cells (slC y).toArray 67)) base 29 29 29 67 i _ 8 64 Tryz.underlying29 hi hz hsize hby rfl (by decide) v l.length (flat8 l) hrow9 (.slice (some ⟨A.heap.size, 0, none⟩) 1 1) 1 (by decide) (slC y) (by
    rw [hsize]
    refine Src.ofSlice _ Tryz.underlying29 ⟨A.heap.size, 0, none⟩ 1 1 _ rfl (fun j u hj => ?_) (by simp [slC, Value.oneCell'])
    have ha : (⟨A.heap.size, 0, none⟩ : Addr).add j = ⟨A.heap.size, j, none⟩ := by unfold Addr.add; split <;> simp_all
    rw [ha]
    exact NS.cell j u (by simpa [slC] using hj)) (by omega) (by unfold maxLen; omega) (by have := q9.size; omega)
  refine ⟨v', w', hr, ?_, ?_⟩
  · unfold RowT
    rw [flat8_snoc, List.length_append]
    exact hown
  · exact (q9.mono hb).trans ⟨hgr.os, hgr.tape, hgr.output, hgr.size, fun k hk => hgr.block k (by have := q9.size; omega) (fun e => by have := (hrow9.block e.symm).1; omega)⟩
theorem wpList_append_run {P : Program} {w w' : World} {ops : Array Oper} {rest : List Oper} {o : Oper} {a : Act} {Q : Exit → Act → World → Prop}
    (hg : o.guard = none) (s x : Operand) (t : TypeId) (hop : o.op = Op.call { callee := Callee.builtin Builtin.append, args := #[s, x], argTypes := #[t, t] })
    (v x0 v' : Value) (hs : a.eval s = v) (hx : a.eval x = x0) (hr : (Builtin.append_ #[t, t] o.type #[v, x0]).run P w = .ok v' w')
    (hK : wpList P ops Q rest (a.put o.dst v') w') : wpList P ops Q (o :: rest) a w := by
  refine wpList_plain hg fun K hK' => ?_
  unfold Oper.wp execOp
  simp only [hop, resolve, invoke, builtin, Sem.run_bind, Sem.run_pure, Result.andThen_ok, List.map_toArray, List.map_cons, List.map_nil, hs, hx, hr]
  exact hK' _ _ hK
end Go.Proofs.YtadfkiebblmfkaaGreatDoor

/- Package state: slices.Clone of slots, own. Conditions: the slots lie in memory. -/
namespace Go.Proofs.YtadfkiebblmfkaaGreatDoor
open Go Go.RowKit
attribute [local go_sem] Oper.semAt_some Grows wide_fn

theorem slC_one8 (x : Sl) : ∀ u ∈ slC x, u.oneCell' = true := by simp [slC, Value.oneCell']
theorem listF_wide8 (w : Pr → Option Nat) (hw : ∀ p v, w p = some v → v = p.fst ∨ v = p.snd) (a b : List Sl) (ha : ∀ x ∈ a, W256 x.1 ∧ W256 x.2) (hb : ∀ x ∈ b, W256 x.1 ∧ W256 x.2) : ∀ x ∈ listF w (bothL a b), W256 x.1 ∧ W256 x.2 := by
  intro x hx
  unfold listF at hx
  obtain ⟨p, hp, e⟩ := List.mem_filterMap.1 hx
  have h := bothL_wide a b ha hb p hp
  rcases hv : w p with _ | v
  · rw [hv] at e; cases e
  · rw [hv] at e
    injection e with e
    subst e
    refine ⟨h.1, ?_⟩
    rcases hw p v hv with rfl | rfl
    · exact h.2.1
    · exact h.2.2
theorem mergeL_wide8 (a b : List Sl) (ha : ∀ x ∈ a, W256 x.1 ∧ W256 x.2) (hb : ∀ x ∈ b, W256 x.1 ∧ W256 x.2) : ∀ x ∈ mergeL a b, W256 x.1 ∧ W256 x.2 :=
  listF_wide8 _ (fun p v h => by
    rcases p with ⟨k, f, s, i⟩
    cases i
    · simp [behindF] at h
      exact .inl h.2.symm
    · simp [behindF] at h
      exact .inr h.2.symm) a b ha hb
theorem of_small8 (n : Nat) (h : n < 1000) : Ret Tryz.prog 29 #[.int .i64 (n : Int)] (.agg #[.int .u64 (lim n 0), .int .u64 (lim n 1), .int .u64 (lim n 2), .int .u64 (lim n 3)]) := by
  have h1 := refOf_ret (n : Int) (by unfold I64; omega)
  rw [show ofN (n : Int) = n by unfold ofN; rw [if_neg (by omega)]; omega] at h1
  exact h1
set_option maxRecDepth 100000 in
theorem copy_made (A : World) (sv : Value) (l : List Sl) (h : SlotsAt A sv l) (hl : l.length ≤ 100000) :
    ∃ v' w', (Builtin.append_ #[29, 29] 29 #[.slice (some ⟨A.heap.size, 0, none⟩) 0 0, sv]).run Tryz.prog (A.alloc (.cells #[] 67)) = .ok v' w' ∧ RowT w' A.heap.size v' l ∧ Below A.heap.size A w' := by
  have hb0 := (Below.refl A.heap.size A).alloc (Nat.le_refl _) (.cells #[] 67)
  have h0 := World.ownsRow_made (base := A.heap.size) (e := 67) (size := 8) A #[] 0 (Nat.le_refl _) (Nat.zero_le _) rfl
  replace h := h.later hb0
  obtain ⟨A1, hA1⟩ : ∃ A1, A.alloc (.cells #[] 67) = A1 := ⟨_, rfl⟩
  rw [hA1] at hb0 h0 h ⊢
  obtain ⟨a, cap, rfl, h2, h3, h4, h5⟩ := h
  obtain ⟨i, hi, hz, hsize, hby⟩ := infoS_of
  cases l with
  | nil =>
    refine ⟨_, _, run_append_nothing (P := Tryz.prog) A1 29 29 29 67 i Tryz.underlying29 hi (some ⟨A.heap.size, 0, none⟩) 0 0 (Nat.le_refl _) (.slice a 0 cap) ?_, h0, hb0⟩
    cases a with
    | none => exact Src.ofNil _ Tryz.underlying29 cap
    | some b => exact Src.ofSlice _ Tryz.underlying29 b 0 cap [] (by simp) (fun j u hj => by simp at hj) (fun u hu => by cases hu)
  | cons x r =>
    obtain ⟨b, rfl, _⟩ := h5 0 x rfl
    obtain ⟨v', w', hr, hown, hgr, hnb⟩ := run_append_src (P := Tryz.prog) A1 A.heap.size 29 29 29 67 i _ 8 64 Tryz.underlying29 hi hz hsize hby rfl (by decide) (.slice (some ⟨A.heap.size, 0, none⟩) 0 0) 0 [] h0 (.slice (some b) (x :: r).length cap) (x :: r).length (by simp) (flat8 (x :: r)) (by
      rw [hsize]
      refine Src.ofSlice _ Tryz.underlying29 b _ cap _ (flat8_length _) (fun j u hj => ?_) (fun u hu => ?_)
      · have hj8 : j < (x :: r).length * 8 := by
          have := (List.getElem?_eq_some_iff.1 hj).1
          rwa [flat8_length] at this
        obtain ⟨y, hy⟩ : ∃ y, (x :: r)[j / 8]? = some y := ⟨_, List.getElem?_eq_getElem (by omega)⟩
        obtain ⟨b', hb', hc⟩ := h5 (j / 8) y hy
        injection hb' with hb'
        subst hb'
        have h8 := hc (j % 8) (by omega)
        have hf := flat8_at (x :: r) (j / 8) y (j % 8) hy (by omega)
        rw [Addr.add_add, show j / 8 * 8 + j % 8 = j by omega] at h8
        rw [show j / 8 * 8 + j % 8 = j by omega, hj] at hf
        injection hf with hf
        rw [hf]
        exact h8
      · obtain ⟨y, _, hy⟩ := List.mem_flatMap.1 hu
        exact slC_one8 y u hy) (by omega) (by unfold maxLen; omega) hb0.size
    refine ⟨v', w', hr, ?_, ?_⟩
    · unfold RowT
      rw [Nat.zero_add, List.nil_append] at hown
      exact hown
    · exact hb0.grown hgr hb0.size (by intro k hk; simp [Value.ownBlock] at hk; omega)

set_option maxRecDepth 100000 in
set_option maxHeartbeats 1000000 in
theorem clone_slots (W : World) (sv : Value) (l : List Sl) (hs : SlotsAt W sv l) (hl : l.length ≤ 100000) :
    Calls Tryz.prog 61 #[sv] W fun e w' => ∃ v', e = .returned v' ∧ RowT w' W.heap.size v' l ∧ Below W.heap.size W w' := by
  have q22 := fun (w : World) (a : Option Addr) (n c n' c' : Nat) => Lib.run_eql_slice_nil (P := Tryz.prog) w 29 _ a n c n' c' Tryz.underlying29
  have HS := Lib.hid hs
  obtain ⟨v', w', hr, hrow, hb⟩ := copy_made W sv l hs hl
  have HR := Lib.hid hrow
  have HB := Lib.hid hb
  clear hrow hb hl
  obtain ⟨a, cap, rfl, hnc, hcm⟩ := hs.shape
  cases a with
  | none =>
    have h0 : l = [] := by
      cases l with
      | nil => rfl
      | cons x r =>
        obtain ⟨b, e, _⟩ := hs.at (i := 0) (x := x) rfl
        cases e
    subst h0
    clear hr hs hnc hcm
    go_enter Tryz.func61, Tryz.ntmps61
    go_wp2_with fail
    go_ret
    exact ⟨_, rfl, World.ownsRow_nil _ _ _ _, Below.refl _ _⟩
  | some b =>
    obtain ⟨n, hn⟩ : ∃ n, l.length = n := ⟨_, rfl⟩
    rw [hn] at hr ⊢
    clear hs hnc hcm hn
    go_enter Tryz.func61, Tryz.ntmps61
    go_wp2_with (at_builtin; refine wpList_append_run rfl (.tmp 5) (.tmp 6) 29 rfl _ _ _ rfl rfl hr ?_)
    go_ret
    exact ⟨_, rfl, HR.out, HB.out⟩
end Go.Proofs.YtadfkiebblmfkaaGreatDoor

/- Package state: own. Conditions: the account's slots lie in memory. -/
namespace Go.Proofs.YtadfkiebblmfkaaGreatDoor
open Go Go.RowKit
attribute [local go_sem] Oper.semAt_some Grows wide_fn

theorem acC_set (x : Ac) (sv v : Value) : (acC x sv).setIfInBounds 26 v = acC x v := by
  unfold acC
  rw [List.setIfInBounds_toArray]
  unfold acL
  rw [List.set_append_right _ _ (by rw [adL_len]; omega), adL_len]
  rfl
theorem acC_one (x : Ac) (sv : Value) (hs : sv.oneCell' = true) : (acC x sv).all (·.oneCell') = true := by
  rw [Array.all_eq_true_iff_forall_mem]
  intro u hu
  exact acL_one x sv hs u (by simpa [acC] using hu)
theorem below_rowAc {B g : Nat} {w0 w : World} (hb : Below B w0 w) (hBg : B ≤ g) (cs : Array Value) : Below B w0 (w.setRow g cs) :=
  hb.trans ⟨rfl, rfl, rfl, by simp [World.setRow], fun k hk => setRow_other w g k cs (by omega)⟩
/-- A row of slots lies in no account's box. -/
theorem RowT.setAc {W : World} {base : Nat} {v : Value} {l : List Sl} {B : Nat} {cs : Array Value} (h : RowT W base v l) (hB : Has W B 31 cs) (k : Nat) (u : Value) : RowT (W.setCell ⟨B, k, none⟩ u) base v l :=
  h.keep fun b c _ hb => (Below.heap_setCell W ⟨B, k, none⟩ u b (fun e => by
    subst e
    have := hB.symm.trans hb
    injection this with this
    injection this with _ this _
    exact absurd this (by decide))).trans hb
theorem RowT.rowAc {W : World} {base : Nat} {v : Value} {l : List Sl} {B : Nat} {cs : Array Value} (h : RowT W base v l) (hB : Has W B 31 cs) (u : Array Value) : RowT (W.setRow B u) base v l :=
  h.keep fun b c _ hb => (setRow_other W B b u (fun e => by
    subst e
    have := hB.symm.trans hb
    injection this with this
    injection this with _ this _
    exact absurd this (by decide))).trans hb
set_option maxRecDepth 100000 in
set_option maxHeartbeats 4000000 in
theorem own_any (W : World) (x : Ac) (sv : Value) (hs : SlotsAt W sv x.slots) (hl : x.slots.length ≤ 100000) :
    Calls Tryz.prog 39 #[.agg (acC x sv)] W fun e w' => ∃ sv', e = .returned (.agg (acC x sv')) ∧ RowT w' W.heap.size sv' x.slots ∧ Below W.heap.size W w' := by
  have hB := Has.new W 31 (acC x sv)
  have hq := (Below.refl W.heap.size W).alloc (Nat.le_refl _) (.cells (acC x sv) 31)
  have HS := Lib.hid hs
  obtain ⟨V, hV⟩ : ∃ V, W.alloc (.cells (acC x sv) 31) = V := ⟨_, rfl⟩
  rw [hV] at hB hq
  have hB2 := Has.new V 31 #[.int .u8 0, .int .u8 0, .int .u8 0, .int .u8 0, .int .u8 0, .int .u8 0, .int .u8 0, .int .u8 0, .int .u8 0, .int .u8 0, .int .u8 0, .int .u8 0, .int .u8 0, .int .u8 0, .int .u8 0, .int .u8 0, .int .u8 0, .int .u8 0, .int .u8 0, .int .u8 0, .int .u64 0, .int .u64 0, .int .u64 0, .int .u64 0, .int .i64 0, .string { data := #[] }, .slice none 0 0]
  have hq2 := (Below.refl V.heap.size V).alloc (Nat.le_refl _) (.cells #[.int .u8 0, .int .u8 0, .int .u8 0, .int .u8 0, .int .u8 0, .int .u8 0, .int .u8 0, .int .u8 0, .int .u8 0, .int .u8 0, .int .u8 0, .int .u8 0, .int .u8 0, .int .u8 0, .int .u8 0, .int .u8 0, .int .u8 0, .int .u8 0, .int .u8 0, .int .u8 0, .int .u64 0, .int .u64 0, .int .u64 0, .int .u64 0, .int .i64 0, .string { data := #[] }, .slice none 0 0] 31)
  obtain ⟨V2, hV2⟩ : ∃ V2, V.alloc (.cells #[.int .u8 0, .int .u8 0, .int .u8 0, .int .u8 0, .int .u8 0, .int .u8 0, .int .u8 0, .int .u8 0, .int .u8 0, .int .u8 0, .int .u8 0, .int .u8 0, .int .u8 0, .int .u8 0, .int .u8 0, .int .u8 0, .int .u8 0, .int .u8 0, .int .u8 0, .int .u8 0, .int .u64 0, .int .u64 0, .int .u64 0, .int .u64 0, .int .i64 0, .string { data := #[] }, .slice none 0 0] 31) = V2 := ⟨_, rfl⟩
  rw [hV2] at hB2 hq2
  have HVW := Lib.hid hB.lt
  have hb := hB.later hq2
  obtain ⟨_, _, _, _, _, _, c26⟩ := hb.acc
  have Q2 := Lib.hid (hq.trans (hq2.mono hq.size))
  have HC := Lib.hid (clone_slots V2 sv x.slots (hs.later Q2.out) hl)
  have B1 := Lib.hid hb
  have B2 := Lib.hid hB2
  clear hb hB hq hq2 hB2 hl hs
  go_enter Tryz.func39, Tryz.ntmps39
  go_wp2_with fail
  refine HC.out.mono ?_
  rintro _ w3 ⟨sv', rfl, hs', hb3⟩
  obtain ⟨a', cap', rfl⟩ := hs'.shape
  have S' := Lib.hid hs'
  have HW' := Lib.hid HS.out.wideAll
  have f26 := (B1.out.later hb3).frozen 26
  have k26 := (B1.out.later hb3).cell 26 sv (acC_more x sv 6)
  have Q3 := Lib.hid (Q2.out.trans (hb3.mono Q2.out.size))
  have B3 := Lib.hid (B1.out.later hb3)
  have B4 := Lib.hid (B2.out.later hb3)
  obtain ⟨n, hn⟩ : ∃ n, x.slots.length = n := ⟨_, rfl⟩
  rw [hn]
  have HN := Lib.hid hn
  rw [hn] at S'
  clear hn
  have h4 : Has (w3.setCell ⟨W.heap.size, 26, none⟩ (.slice a' n cap')) W.heap.size 31 (acC x (.slice a' n cap')) := by
    have := B3.out.set 26 (.slice a' n cap')
    rwa [acC_set] at this
  have h42 : Has (w3.setCell ⟨W.heap.size, 26, none⟩ (.slice a' n cap')) V.heap.size 31 #[.int .u8 0, .int .u8 0, .int .u8 0, .int .u8 0, .int .u8 0, .int .u8 0, .int .u8 0, .int .u8 0, .int .u8 0, .int .u8 0, .int .u8 0, .int .u8 0, .int .u8 0, .int .u8 0, .int .u8 0, .int .u8 0, .int .u8 0, .int .u8 0, .int .u8 0, .int .u8 0, .int .u64 0, .int .u64 0, .int .u64 0, .int .u64 0, .int .i64 0, .string { data := #[] }, .slice none 0 0] := B4.out.other (by show V.heap.size ≠ W.heap.size; have := HVW.out; omega) _
  have Q4 := Lib.hid (Below.setCell Q3.out (p := ⟨W.heap.size, 26, none⟩) (Nat.le_refl _) (.slice a' n cap'))
  have S4 := Lib.hid (S'.out.setAc B3.out 26 (.slice a' n cap'))
  have hl4 := h4.accLoad
  have h5 : Has ((w3.setCell ⟨W.heap.size, 26, none⟩ (.slice a' n cap')).setRow V.heap.size (acC x (.slice a' n cap'))) V.heap.size 31 (acC x (.slice a' n cap')) := setRow_heap _ _ _ _ _ _ h42
  have Q5 := Lib.hid (below_rowAc Q4.out (g := V.heap.size) (by have := HVW.out; omega) (acC x (.slice a' n cap')))
  have S5 := Lib.hid (S4.out.rowAc h42 (acC x (.slice a' n cap')))
  have hl5 := h5.accLoad
  have hi5 : (Tryz.prog.info? 31).map (·.size) = some (acC x (.slice a' n cap')).size := by rw [acC_size]; exact infoAc
  have ho5 : (#[.int .u8 0, .int .u8 0, .int .u8 0, .int .u8 0, .int .u8 0, .int .u8 0, .int .u8 0, .int .u8 0, .int .u8 0, .int .u8 0, .int .u8 0, .int .u8 0, .int .u8 0, .int .u8 0, .int .u8 0, .int .u8 0, .int .u8 0, .int .u8 0, .int .u8 0, .int .u8 0, .int .u64 0, .int .u64 0, .int .u64 0, .int .u64 0, .int .i64 0, .string { data := #[] }, .slice none 0 0] : Array Value).size = (acC x (.slice a' n cap')).size := by rw [acC_size]; rfl
  have ha5 := acC_one x (.slice a' n cap') rfl
  clear hs' HC c26 hV hV2 h4 hb3
  go_wp2_with (first | (refine wpList_load_known rfl _ _ rfl _ rfl _ hl4 ?_) | (refine wpList_store_row rfl _ _ _ rfl _ _ rfl rfl _ _ h42 hi5 ho5 ha5 ?_))
  try simp only [Exit.inBlock, Exit.then]
  refine bodyPost_ret (results_cell_row rfl _ _ V.heap.size 31 _ (0, 0) _ rfl h5 Tryz.underlying31 rfl hi5) rfl ?_
  have S6 := S5.out.lower Q2.out.size
  exact ⟨_, rfl, S6, Q5.out⟩
end Go.Proofs.YtadfkiebblmfkaaGreatDoor
