/- A word's bits, moved. For every word and distance. -/
import Derived.Test.YtnlcllhjhbaigaaDoorBitN
namespace Go.Proofs.YtnlcllhjhbaigaaDoor
open Go Go.RowKit
attribute [local go_sem] Oper.semAt_some Grows wide_fn

/-- A call that gives one value where the library's table lies, and only adds to the heap. -/
def RetT (P : Program) (f : FuncId) (args : Array Value) (v : Value) : Prop := ∀ w, Tab w → Calls P f args w fun e w' => e = .returned v ∧ Below w.heap.size w w'
theorem Ret.toT {P : Program} {f : FuncId} {args : Array Value} {v : Value} (h : Ret P f args v) : RetT P f args v := fun w _ => h w
theorem RetT.at {P : Program} {f : FuncId} {args : Array Value} {v : Value} (h : RetT P f args v) {W : World} (hT : Tab W) (x : Ext W) :
    Calls P f args x.w fun e w'' => e = .returned v ∧ ∃ y : Ext W, w'' = y.w :=
  (h x.w (hT.later x.below)).mono fun _ w' ⟨he, hb⟩ => ⟨he, ⟨w', x.2.trans (hb.mono x.2.size)⟩, rfl⟩
theorem RetT.of_eq {P : Program} {f : FuncId} {args args' : Array Value} {v v' : Value} (h : RetT P f args v) (ha : args = args') (hv : v = v') : RetT P f args' v' := by subst ha; subst hv; exact h

theorem ones_any (p : Addr) (w : World) :
    Calls Tryd.prog 58 #[.pointer (some p)] w fun e w' => e = .returned (.func (.func 63) #[] #[.pointer (some ⟨w.heap.size, 0, none⟩)]) ∧ w' = w.alloc (.cells #[.pointer (some p)] 66) := by
  go_enter Tryd.func58, Tryd.ntmps58
  go_wp2
  go_ret
  exact ⟨rfl, rfl⟩

/-- What the call's own blocks hold: the word, the distance, the result, what is made, the iterator's pointer. -/
structure MovSt (w : World) (a : Nat) (up : Int) (m : Nat) (W : World) : Prop where
  A : Has W w.heap.size 24 (limC a)
  U : Has W (w.heap.size + 1) 3 #[.int .i64 up]
  R : Has W (w.heap.size + 1 + 1) 24 #[.int .u64 0, .int .u64 0, .int .u64 0, .int .u64 0]
  M : Has W (w.heap.size + 1 + 1 + 1) 24 (limC m)
  P : Has W (w.heap.size + 1 + 1 + 1 + 1) 66 #[.pointer (some ⟨w.heap.size, 0, none⟩)]
  T : Tab W
  Q : Below w.heap.size w W
theorem MovSt.own (w : World) (a : Nat) (up : Int) (B : Nat) (hB : 0 < w.heap.size ∧ w.heap.size ≤ B) (m : Nat → Nat) : OwnFrom B (fun (k : Nat) W => MovSt w a up (m k) W) := fun s A X row hs hg hr =>
  ⟨hs.A.grown hg (fun r e => (hr r e).2), hs.U.grown hg (fun r e => (hr r e).2), hs.R.grown hg (fun r e => (hr r e).2), hs.M.grown hg (fun r e => (hr r e).2), hs.P.grown hg (fun r e => (hr r e).2), hs.T.grown hg (by omega) (fun r e => (hr r e).1),
    ⟨hg.os.trans hs.Q.os, hg.tape.trans hs.Q.tape, hg.output.trans hs.Q.output, Nat.le_trans hs.Q.size hg.size, fun k hk => (hg.block k (Nat.lt_of_lt_of_le hk hs.Q.size) (fun e => by have := (hr k e.symm).1; omega)).trans (hs.Q.block k hk)⟩⟩
theorem MovSt.later {w : World} {a : Nat} {up : Int} {m : Nat} {W X : World} (h : MovSt w a up m W) (hb : Below W.heap.size W X) : MovSt w a up m X :=
  ⟨h.A.later hb, h.U.later hb, h.R.later hb, h.M.later hb, h.P.later hb, h.T.later hb, h.Q.trans (hb.mono h.Q.size)⟩
theorem MovSt.put {w : World} {a : Nat} {up : Int} {m m' : Nat} {W : World} (hw : 0 < w.heap.size) (h : MovSt w a up m W) (j : Nat) (hj : j < 4) (hm : ∀ i, i < 4 → i ≠ j → lim m' i = lim m i) :
    MovSt w a up m' (W.setCell ⟨w.heap.size + 1 + 1 + 1, j, none⟩ (.int .u64 (lim m' j))) :=
  ⟨h.A.other (by simp; omega) _, h.U.other (by simp) _, h.R.other (by simp) _, by have := h.M.set j (.int .u64 (lim m' j)); rwa [limC_set m m' j hj hm] at this, h.P.other (by simp) _, h.T.other (by simp) _, h.Q.setCell (by simp; omega) _⟩

set_option maxRecDepth 100000 in
set_option maxHeartbeats 4000000 in
theorem moved_ret (a : Nat) (up : Int) (ha : W256 a) (hup : -4611686018427387904 ≤ up ∧ up ≤ 4611686018427387904) : RetT Tryd.prog 42 #[wv a, .int .i64 up] (wv (mvN a up)) := by
  intro w hT
  have hw0 := hT.lt
  have hmx : Tryd.prog.follows .mixedOrders = true := by kernel_rfl
  unfold wv
  have h1 : 1 ≤ 8 := by omega
  refine (callsIn_wide (n := 8)).1 ?_
  refine callsIn_of_wp_marks Tryd.func42 rfl trivial ?_ rfl
  simp only [Tryd.ntmps42, List.size_toArray, List.length_cons, List.length_nil, Nat.reduceAdd, Nat.reduceSub, Array.replicate_succ, Array.replicate_zero, List.push_toArray, List.append_toArray, List.nil_append, List.cons_append]
  gi_wp2_with (gi_at_call 58; refine (callsIn_free free_wide (ones_any _ _)).mono ?_; rintro e w' ⟨rfl, rfl⟩)
  have LA := Has.new w 24 #[.int .u64 (lim a 0), .int .u64 (lim a 1), .int .u64 (lim a 2), .int .u64 (lim a 3)]
  have LA := LA.alloc (.cells #[.int .i64 up] 3)
  have LA := LA.alloc (.cells #[.int .u64 0, .int .u64 0, .int .u64 0, .int .u64 0] 24)
  have LA := LA.alloc (.cells #[.int .u64 0, .int .u64 0, .int .u64 0, .int .u64 0] 24)
  have LA := LA.alloc (.cells #[.pointer (some ⟨w.heap.size, 0, none⟩)] 66)
  have LU := Has.new (w.alloc (.cells #[.int .u64 (lim a 0), .int .u64 (lim a 1), .int .u64 (lim a 2), .int .u64 (lim a 3)] 24)) 3 #[.int .i64 up]
  simp only [World.size_alloc] at LU
  have LU := LU.alloc (.cells #[.int .u64 0, .int .u64 0, .int .u64 0, .int .u64 0] 24)
  have LU := LU.alloc (.cells #[.int .u64 0, .int .u64 0, .int .u64 0, .int .u64 0] 24)
  have LU := LU.alloc (.cells #[.pointer (some ⟨w.heap.size, 0, none⟩)] 66)
  have LR := Has.new ((w.alloc (.cells #[.int .u64 (lim a 0), .int .u64 (lim a 1), .int .u64 (lim a 2), .int .u64 (lim a 3)] 24)).alloc (.cells #[.int .i64 up] 3)) 24 #[.int .u64 0, .int .u64 0, .int .u64 0, .int .u64 0]
  simp only [World.size_alloc] at LR
  have LR := LR.alloc (.cells #[.int .u64 0, .int .u64 0, .int .u64 0, .int .u64 0] 24)
  have LR := LR.alloc (.cells #[.pointer (some ⟨w.heap.size, 0, none⟩)] 66)
  have LM := Has.new (((w.alloc (.cells #[.int .u64 (lim a 0), .int .u64 (lim a 1), .int .u64 (lim a 2), .int .u64 (lim a 3)] 24)).alloc (.cells #[.int .i64 up] 3)).alloc (.cells #[.int .u64 0, .int .u64 0, .int .u64 0, .int .u64 0] 24)) 24 #[.int .u64 0, .int .u64 0, .int .u64 0, .int .u64 0]
  simp only [World.size_alloc] at LM
  have LM := LM.alloc (.cells #[.pointer (some ⟨w.heap.size, 0, none⟩)] 66)
  have LP := Has.new ((((w.alloc (.cells #[.int .u64 (lim a 0), .int .u64 (lim a 1), .int .u64 (lim a 2), .int .u64 (lim a 3)] 24)).alloc (.cells #[.int .i64 up] 3)).alloc (.cells #[.int .u64 0, .int .u64 0, .int .u64 0, .int .u64 0] 24)).alloc (.cells #[.int .u64 0, .int .u64 0, .int .u64 0, .int .u64 0] 24)) 66 #[.pointer (some ⟨w.heap.size, 0, none⟩)]
  simp only [World.size_alloc] at LP
  have Q := Below.refl w.heap.size w
  have Q := Q.alloc Q.size (.cells #[.int .u64 (lim a 0), .int .u64 (lim a 1), .int .u64 (lim a 2), .int .u64 (lim a 3)] 24)
  have Q := Q.alloc Q.size (.cells #[.int .i64 up] 3)
  have Q := Q.alloc Q.size (.cells #[.int .u64 0, .int .u64 0, .int .u64 0, .int .u64 0] 24)
  have Q := Q.alloc Q.size (.cells #[.int .u64 0, .int .u64 0, .int .u64 0, .int .u64 0] 24)
  have Q := Q.alloc Q.size (.cells #[.pointer (some ⟨w.heap.size, 0, none⟩)] 66)
  have HT := (((((hT.alloc (.cells #[.int .u64 (lim a 0), .int .u64 (lim a 1), .int .u64 (lim a 2), .int .u64 (lim a 3)] 24)).alloc (.cells #[.int .i64 up] 3)).alloc (.cells #[.int .u64 0, .int .u64 0, .int .u64 0, .int .u64 0] 24)).alloc (.cells #[.int .u64 0, .int .u64 0, .int .u64 0, .int .u64 0] 24)).alloc (.cells #[.pointer (some ⟨w.heap.size, 0, none⟩)] 66))
  obtain ⟨W0, hW0⟩ : ∃ W0, (((((w.alloc (.cells #[.int .u64 (lim a 0), .int .u64 (lim a 1), .int .u64 (lim a 2), .int .u64 (lim a 3)] 24)).alloc (.cells #[.int .i64 up] 3)).alloc (.cells #[.int .u64 0, .int .u64 0, .int .u64 0, .int .u64 0] 24)).alloc (.cells #[.int .u64 0, .int .u64 0, .int .u64 0, .int .u64 0] 24)).alloc (.cells #[.pointer (some ⟨w.heap.size, 0, none⟩)] 66)) = W0 := ⟨_, rfl⟩
  have hsz : W0.heap.size = w.heap.size + 5 := by rw [← hW0]; simp
  rw [hW0] at LA LU LR LM LP Q HT ⊢
  clear hW0 hT
  have hz : ∀ j, lim 0 j = 0 := fun j => by unfold lim; split <;> simp
  have hJ0 : MovSt w a up (mvL up ((allOnes a).take 0)) W0 := ⟨LA, LU, LR, by rw [show limC (mvL up ((allOnes a).take 0)) = #[.int .u64 0, .int .u64 0, .int .u64 0, .int .u64 0] by unfold limC; simp [mvL, hz]]; exact LM, LP, HT, Q⟩
  clear LU LR LM hz Q
  refine wpIn_rangeFunc_N1 rfl (by omega) (gf := 63) (lb := #[.pointer (some ⟨w.heap.size + 1 + 1 + 1 + 1, 0, none⟩)]) rfl trivial (enters_of Tryd.func63 (by kernel_rfl) rfl)
    (ones_seq _ (by omega) _ _ a W0 (by omega) (by omega) HT (LP.cell 0 _ rfl) (fun j hj => LA.cell j _ (limC_get a j hj))) KeepsAt.trans (KeepsAt.refl _) (KeepsAt.b (by simp; omega)) (fun _ _ => rfl)
    (fun k W => MovSt w a up (mvL up ((allOnes a).take k)) W) (fun _ _ _ => False) (MovSt.own w a up _ ⟨hw0, by omega⟩ _) (fun _ _ _ _ _ hs _ _ => hs) hJ0
    (fun k => { tmps := #[.agg #[.int .u64 (lim a 0), .int .u64 (lim a 1), .int .u64 (lim a 2), .int .u64 (lim a 3)], .int .i64 up, .pointer (some ⟨w.heap.size, 0, none⟩), .pointer (some ⟨w.heap.size + 1, 0, none⟩), .pointer (some ⟨w.heap.size + 1 + 1, 0, none⟩), .pointer (some ⟨w.heap.size + 1 + 1 + 1, 0, none⟩), .int .i64 (((allOnes a).getD k 0 : Nat) : Int), undef, .agg #[.int .u64 0, .int .u64 0, .int .u64 0, .int .u64 0], .func (.func 63) #[] #[.pointer (some ⟨w.heap.size + 1 + 1 + 1 + 1, 0, none⟩)], .int .i64 (((allOnes a).getD k 0 : Nat) : Int), undef, undef, undef, undef, undef, undef, undef, undef, undef, undef, undef, undef, undef, undef, undef, undef, undef, undef, undef], defers := [] }) ?assign ?body ?done ?stop
  case assign =>
    intro l k W K hkN hK
    clear hkN
    generalize (allOnes a).getD k 0 = p at *
    gi_wp2
    exact hK
  case body =>
    rintro l k W hl hkN hst
    have hp : (allOnes a).getD k 0 < 256 := by
      rw [List.getD_eq_getElem?_getD, List.getElem?_eq_getElem hkN]
      exact allOnes_lt a _ (List.getElem_mem hkN)
    have hmv := mvL_take up (allOnes a) k hkN
    have hmw : W256 (mvL up ((allOnes a).take k)) := foldB_lt up _ 0 (by unfold W256; omega)
    generalize (allOnes a).getD k 0 = p at *
    have HST := Lib.hid hst
    have HMV := Lib.hid hmv
    have hpI : (p : Int) < 256 := by omega
    obtain ⟨hu1, hu2⟩ := hup
    clear hmv hst hJ0 LA LP HT hkN
    by_cases hx : 0 ≤ (p : Int) + up ∧ (p : Int) + up < 256
    · obtain ⟨t, ht⟩ := Int.eq_ofNat_of_zero_le hx.1
      have ht6 : t < 256 := by omega
      obtain ⟨b1, b2⟩ := lim_put (mvL up ((allOnes a).take k)) t ht6
      have hpb : putB up (mvL up ((allOnes a).take k)) p = mvL up ((allOnes a).take k) ||| 2 ^ t := by
        unfold putB
        rw [if_pos hx, ht]
        rfl
      rw [hpb] at HMV
      obtain ⟨m', hm'⟩ : ∃ m', mvL up ((allOnes a).take (k + 1)) = m' := ⟨_, rfl⟩
      rw [hm'] at HMV
      have HM := Lib.hid hm'
      clear hm'
      generalize mvL up ((allOnes a).take k) = m at *
      rw [← HMV.out] at b1 b2
      have e1 : (t : Int).tdiv 64 = ((t / 64 : Nat) : Int) := by rw [Int.tdiv_eq_ediv_of_nonneg (by omega)]; omega
      have e2 : (t : Int).tmod 64 = ((t % 64 : Nat) : Int) := by rw [Int.tmod_eq_emod_of_nonneg (by omega)]; omega
      have hi4 : t / 64 < 4 := by omega
      have hr64 : t % 64 < 64 := by omega
      generalize t / 64 = i at *
      generalize t % 64 = r at *
      have hi4I : (i : Int) < 4 := by omega
      have hr64I : (r : Int) < 64 := by omega
      have ht6I : (t : Int) < 256 := by omega
      have HB2 := Lib.hid b2
      have HI4 := Lib.hid hi4
      have ku : W.cell? ⟨w.heap.size + 1, 0, none⟩ = some (.int .i64 up) := HST.out.U.cell 0 _ rfl
      have km : ∀ x : Ext W, x.w.cell? ⟨w.heap.size + 1 + 1 + 1, i, none⟩ = some (.int .u64 (lim m i)) := fun x => (HST.out.M.later x.below).cell i _ (limC_get m i hi4)
      have kz : ∀ x : Ext W, x.w.frozen? ⟨w.heap.size + 1 + 1 + 1, i, none⟩ = false := fun x => (HST.out.M.later x.below).frozen i
      clear hx hpb b2 hi4 hr64 ht6 HMV hp hmw
      gi_wp2_with fail
      refine wpIn_region_mix (C := Grows W) (free_round l) [some true, some true, some true, some true, some true, some true, some true, some true, some true, none] hmx (by kernel_rfl) (by kernel_rfl) (grows_refl W) ?_
      simp only [headOf, tailOf]
      repeat (go_big_quiet_step (fail))
      refine wpQuiet_nil ?_
      rintro _ ⟨x, rfl⟩
      have H2 := Lib.hid ((HST.out.later x.below).put hw0 (m' := m') i HI4.out HB2.out)
      have HKP := Lib.hid (x.keeps W0.heap.size)
      have kz' := kz x
      have km' := km x
      clear km kz
      go_wp2
      rw [calmPost_normal]
      gi_wp2
      refine ⟨HKP.out.trans ((KeepsOthers.setCell _ _ _).from _), ?_, by show MovSt w a up (mvL up ((allOnes a).take (k + 1))) _; rw [HM.out]; exact H2.out⟩
      refine KeepsAt.setCell (KeepsAt.below (KeepsAt.refl _ _) x.below (fun b' hb' => ?_)) (by simp; omega) _
      have := HST.out.P.lt
      simp at hb'
      omega
    · have hpb : putB up (mvL up ((allOnes a).take k)) p = mvL up ((allOnes a).take k) := by unfold putB; rw [if_neg hx]
      rw [hpb] at HMV
      have H2 : Hid (MovSt w a up (mvL up ((allOnes a).take (k + 1))) W) := by rw [HMV.out]; exact HST.out
      have ku : W.cell? ⟨w.heap.size + 1, 0, none⟩ = some (.int .i64 up) := HST.out.U.cell 0 _ rfl
      clear hpb HMV hp hmw
      generalize mvL up ((allOnes a).take k) = m at *
      by_cases hx0 : 0 ≤ (p : Int) + up
      · have hx1 : ¬ (p : Int) + up < 256 := fun h => hx ⟨hx0, h⟩
        clear hx
        gi_wp2
        exact ⟨KeepsFrom.refl _ _, KeepsAt.refl _ _, H2.out⟩
      · clear hx
        gi_wp2
        exact ⟨KeepsFrom.refl _ _, KeepsAt.refl _ _, H2.out⟩
  case done =>
    rintro D W hD hst hK
    rw [List.take_length] at hst
    have HST := Lib.hid hst
    have HK := Lib.hid hK
    clear hst hK hJ0 LA LP HT
    have c0 : W.cell? ⟨w.heap.size + 1 + 1 + 1, 0, none⟩ = some (.int .u64 (lim (mvN a up) 0)) := HST.out.M.cell 0 _ (limC_get _ 0 (by omega))
    have c1 : W.cell? ⟨w.heap.size + 1 + 1 + 1, 1, none⟩ = some (.int .u64 (lim (mvN a up) 1)) := HST.out.M.cell 1 _ (limC_get _ 1 (by omega))
    have c2 : W.cell? ⟨w.heap.size + 1 + 1 + 1, 2, none⟩ = some (.int .u64 (lim (mvN a up) 2)) := HST.out.M.cell 2 _ (limC_get _ 2 (by omega))
    have c3 : W.cell? ⟨w.heap.size + 1 + 1 + 1, 3, none⟩ = some (.int .u64 (lim (mvN a up) 3)) := HST.out.M.cell 3 _ (limC_get _ 3 (by omega))
    have r0 := HST.out.R.cell 0 _ rfl
    have r1 := HST.out.R.cell 1 _ rfl
    have r2 := HST.out.R.cell 2 _ rfl
    have r3 := HST.out.R.cell 3 _ rfl
    have z0 := HST.out.R.frozen 0
    have z1 := HST.out.R.frozen 1
    have z2 := HST.out.R.frozen 2
    have z3 := HST.out.R.frozen 3
    have hRB : ∀ p : Addr, p.block = w.heap.size + 1 + 1 → w.heap.size ≤ p.block := fun p e => by omega
    have RR := Lib.hid ((((HST.out.R.set 0 (.int .u64 (lim (mvN a up) 0))).set 1 (.int .u64 (lim (mvN a up) 1))).set 2 (.int .u64 (lim (mvN a up) 2))).set 3 (.int .u64 (lim (mvN a up) 3)))
    have QQ := Lib.hid ((((HST.out.Q.setCell (p := ⟨w.heap.size + 1 + 1, 0, none⟩) (hRB _ rfl) (.int .u64 (lim (mvN a up) 0))).setCell (p := ⟨w.heap.size + 1 + 1, 1, none⟩) (hRB _ rfl) (.int .u64 (lim (mvN a up) 1))).setCell (p := ⟨w.heap.size + 1 + 1, 2, none⟩) (hRB _ rfl) (.int .u64 (lim (mvN a up) 2))).setCell (p := ⟨w.heap.size + 1 + 1, 3, none⟩) (hRB _ rfl) (.int .u64 (lim (mvN a up) 3)))
    have hDn : D ≠ w.heap.size + 1 + 1 := by omega
    clear hRB
    gi_wp2
    obtain ⟨W5, hW5⟩ : ∃ W5, ((((W.setCell ⟨w.heap.size + 1 + 1, 0, none⟩ (.int .u64 (lim (mvN a up) 0))).setCell ⟨w.heap.size + 1 + 1, 1, none⟩ (.int .u64 (lim (mvN a up) 1))).setCell ⟨w.heap.size + 1 + 1, 2, none⟩ (.int .u64 (lim (mvN a up) 2))).setCell ⟨w.heap.size + 1 + 1, 3, none⟩ (.int .u64 (lim (mvN a up) 3))) = W5 := ⟨_, rfl⟩
    have hK5 : W5.heap[D]? = some (.deferred (some [])) := by
      rw [← hW5]
      exact (Below.heap_setCell _ _ _ _ hDn).trans ((Below.heap_setCell _ _ _ _ hDn).trans ((Below.heap_setCell _ _ _ _ hDn).trans ((Below.heap_setCell _ _ _ _ hDn).trans HK.out)))
    have R5 := RR.out
    have Q5 := QQ.out
    rw [hW5] at R5 Q5 ⊢
    clear hW5 RR QQ c0 c1 c2 c3 r0 r1 r2 r3 z0 z1 z2 z3 HK HST
    have R6 : Has (W5.putObj D (.deferred none)) (w.heap.size + 1 + 1) 24 (limC (mvN a up)) := (World.putObj_heap_other (fun e => hDn e.symm)).trans R5
    have Q6 : Below w.heap.size w (W5.putObj D (.deferred none)) := Q5.trans (belowK_b (w := w) (Nat.le_refl _) _ D _ _ (by omega) hK5 rfl rfl)
    have e0 := R6.cell 0 _ (limC_get _ 0 (by omega))
    have e1 := R6.cell 1 _ (limC_get _ 1 (by omega))
    have e2 := R6.cell 2 _ (limC_get _ 2 (by omega))
    have e3 := R6.cell 3 _ (limC_get _ 3 (by omega))
    refine ⟨by simp, .inl ⟨_, _, rfl, run_takeDeferred hK5, ?_⟩⟩
    exact ⟨_, by simp [results, Tryd.f42, go_sem, e0, e1, e2, e3], rfl, Q6⟩
  case stop =>
    rintro D c k W _ _ h _
    exact h.elim
end Go.Proofs.YtnlcllhjhbaigaaDoor
