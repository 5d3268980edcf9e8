/- Make, risen, inOrder, May. Conditions: the keys lie in memory. -/
import Derived.Test.YtbkgipggblphlaaAcV
namespace Go.Proofs.Ytbkgipggblphlaa
open Go Go.RowKit
attribute [local go_sem] Oper.semAt_some Grows wide_fn

theorem results_setsB {fn : Func} {t u : Tmp} {tmps : Array Value} {W : World} {B : Nat} {x y : Value} (h : fn.results = #[ResultVar.cell t 24, ResultVar.tmp u]) (ht : tmps.getD t undef = .pointer (some ⟨B, 0, none⟩)) (hA : Has W B 24 #[x, y]) :
    (results fn tmps).run Try.prog W = .ok (.tuple #[.agg #[x, y], tmps.getD u undef]) W := by
  have e0 := hA.cell 0 _ rfl
  have e1 := hA.cell 1 _ rfl
  simp at ht
  simp [results, h, ht, go_sem, e0, e1]
theorem results_sets {fn : Func} {t : Tmp} {tmps : Array Value} {W : World} {B : Nat} {x y : Value} (h : fn.results = #[ResultVar.cell t 24]) (ht : tmps.getD t undef = .pointer (some ⟨B, 0, none⟩)) (hA : Has W B 24 #[x, y]) :
    (results fn tmps).run Try.prog W = .ok (.agg #[x, y]) W := by
  have e0 := hA.cell 0 _ rfl
  have e1 := hA.cell 1 _ rfl
  simp at ht
  simp [results, h, ht, go_sem, e0, e1]
theorem KeysAt.away {W : World} {v : Value} {l : List Ky} (h : KeysAt W v l) {B : Nat} {t : TypeId} {a b : Option Addr} {n c m d : Nat} (hB : Has W B t #[.slice a n c, .slice b m d]) (k : Nat) (u : Value) : KeysAt (W.setCell ⟨B, k, none⟩ u) v l := by
  obtain ⟨a', cap, h1, h2, h3, h4, h5⟩ := h
  refine ⟨a', cap, h1, h2, h3, h4, fun i x hx => ?_⟩
  obtain ⟨p, e, hc⟩ := h5 i x hx
  refine ⟨p, e, fun j y hj => ?_⟩
  have h6 := hc j y hj
  generalize (p.add (i * 25)).add j = q at *
  by_cases hq : q.block = B
  · exfalso
    have hy := List.mem_of_getElem? hj
    have hcl : W.heap[B]? = some (.cells #[.slice a n c, .slice b m d] t (0, 0)) := hB
    unfold World.cell? at h6
    rw [hq, hcl] at h6
    have hm : y = .slice a n c ∨ y = .slice b m d := by
      have h7 : q.spot = none ∧ [Value.slice a n c, .slice b m d][q.off]? = some y := by simpa using h6
      have := List.mem_of_getElem? h7.2
      simpa using this
    unfold kyL adL at hy
    rcases List.mem_append.1 hy with hy | hy
    · obtain ⟨i, _, rfl⟩ := List.mem_map.1 hy
      rcases hm with hm | hm <;> cases hm
    · simp only [List.mem_cons, List.not_mem_nil, or_false] at hy
      rcases hy with rfl | rfl | rfl | rfl | rfl <;> rcases hm with hm | hm <;> cases hm
  · exact (World.cell?_of_block (Below.heap_setCell W ⟨B, k, none⟩ u q.block hq)).trans h6
/-- What Make and Join tell. -/
structure SetsP (W : World) (r s : List Ky) (c : Nat) (e : Ending) (w' : World) : Prop where
  ex : ∃ x y, e = .returned (.tuple #[.agg #[x, y], .int .i64 (c : Int)]) ∧ KeysAt w' x r ∧ KeysAt w' y s ∧ Below W.heap.size W w'
set_option maxRecDepth 100000 in
set_option maxHeartbeats 8000000 in
theorem make_any (W : World) (rv sv : Value) (r s : List Ky) (hr : KeysAt W rv r) (hs : KeysAt W sv s) (hlr : r.length ≤ 100000) (hls : s.length ≤ 100000) :
    Calls Try.prog 12 #[rv, sv] W (SetsP W (makeM r s).1 (makeM r s).2.1 (makeM r s).2.2) := by
  have hB := Has.new W 24 #[.slice none 0 0, .slice none 0 0]
  have hq0 := (Below.refl W.heap.size W).alloc (Nat.le_refl _) (.cells #[.slice none 0 0, .slice none 0 0] 24)
  obtain ⟨V, hV⟩ : ∃ V, W.alloc (.cells #[.slice none 0 0, .slice none 0 0] 24) = V := ⟨_, rfl⟩
  rw [hV] at hB hq0
  have HR := Lib.hid hr
  have HS := Lib.hid hs
  have Q := Lib.hid hq0
  have HB := Lib.hid hB
  have C1 := Lib.hid (kcontf_any V rv r (hr.later hq0))
  have C2 := Lib.hid (fun (X : World) (hX : Below V.heap.size V X) => kcontf_any X sv s (hs.later (hq0.trans (hX.mono hq0.size))))
  have hfin := Lib.hid (show ∀ (w' : World) (x y : Value) (c : Nat) (a b : List Ky), makeM r s = (a, b, c) → KeysAt w' x a → KeysAt w' y b → Below W.heap.size W w' → SetsP W (makeM r s).1 (makeM r s).2.1 (makeM r s).2.2 (.returned (.tuple #[.agg #[x, y], .int .i64 (c : Int)])) w' from fun w' x y c a b e h1 h2 h3 => by rw [e]; exact ⟨x, y, rfl, h1, h2, h3⟩)
  obtain ⟨Post, hPost⟩ : ∃ Post, SetsP W (makeM r s).1 (makeM r s).2.1 (makeM r s).2.2 = Post := ⟨_, rfl⟩
  rw [hPost] at hfin ⊢
  clear hPost
  obtain ⟨ra, rc, rfl, _, _⟩ := hr.shape
  obtain ⟨sa, sc, rfl, _, _⟩ := hs.shape
  have HLR := Lib.hid hlr
  have HLS := Lib.hid hls
  clear hr hs hlr hls hq0 hB
  cases h1 : r.any strayB
  · rw [h1] at C1
    have H1 := Lib.hid h1
    clear h1
    cases h2 : s.any strayB
    · rw [h2] at C2
      have H2 := Lib.hid h2
      clear h2
      have S1 := Lib.hid (fun (X : World) (hX : Below V.heap.size V X) => set_keys X _ r (HR.out.later (Q.out.trans (hX.mono Q.out.size))) HLR.out)
      have S2 := Lib.hid (fun (X : World) (hX : Below V.heap.size V X) => set_keys X _ s (HS.out.later (Q.out.trans (hX.mono Q.out.size))) HLS.out)
      generalize hrn : r.length = rn at *
      generalize hsn : s.length = sn at *
      clear hrn hsn
      go_enter Try.func12, Try.ntmps12
      go_wp2_with fail
      refine C1.out.mono ?_
      rintro _ w1 ⟨rfl, hb1⟩
      go_wp2_with fail
      refine (C2.out w1 hb1).mono ?_
      rintro _ w2 ⟨rfl, hb2⟩
      have hb12 := hb1.trans (hb2.mono hb1.size)
      clear hb1 hb2
      go_wp2_with fail
      refine (S1.out w2 hb12).mono ?_
      rintro _ w3 ⟨v3, rfl, hk3, hb3⟩
      have hb13 := hb12.trans (hb3.mono hb12.size)
      obtain ⟨a3, c3, hv3, _⟩ := hk3.shape
      subst hv3
      have K3 := Lib.hid hk3
      clear hk3 hb3 hb12
      generalize hn3 : (setL r).length = n3 at *
      go_wp2_with fail
      refine (S2.out w3 hb13).mono ?_
      rintro _ w4 ⟨v4, rfl, hk4, hb4⟩
      have hb14 := hb13.trans (hb4.mono hb13.size)
      obtain ⟨a4, c4, hv4, _⟩ := hk4.shape
      subst hv4
      have K34 := Lib.hid (K3.out.later hb4)
      have K4 := Lib.hid hk4
      clear hk4 hb4 hb13
      generalize hn4 : (setL s).length = n4 at *
      have hBB := Has.new w4 24 #[.slice a3 n3 c3, .slice a4 n4 c4]
      have hqq := (Below.refl w4.heap.size w4).alloc (Nat.le_refl _) (.cells #[.slice a3 n3 c3, .slice a4 n4 c4] 24)
      obtain ⟨W5, hW5⟩ : ∃ W5, w4.alloc (.cells #[.slice a3 n3 c3, .slice a4 n4 c4] 24) = W5 := ⟨_, rfl⟩
      rw [hW5] at hBB hqq
      have HN3 := Lib.hid hn3
      have HN4 := Lib.hid hn4
      have L1 := Lib.hid (long_any W5 _ (setL r) (K34.out.later hqq))
      have L2 := Lib.hid (fun (X : World) (hX : Below W5.heap.size W5 X) => long_any X _ (setL s) (K4.out.later (hqq.trans (hX.mono hqq.size))))
      rw [hn3] at L1
      rw [hn4] at L2
      have Q5 := Lib.hid (hb14.trans (hqq.mono hb14.size))
      have HBB := Lib.hid hBB
      have c0 := hBB.cell 0 _ rfl
      have QQ := Lib.hid hqq
      clear hBB hqq hb14 hn3 hn4
      cases h3 : decide (200 < n3)
      · rw [h3] at L1
        have H3 := Lib.hid (of_decide_eq_false h3)
        clear h3
        cases h4 : decide (200 < n4)
        · rw [h4] at L2
          have H4 := Lib.hid (of_decide_eq_false h4)
          clear h4
          go_wp2_with fail
          refine L1.out.mono ?_
          rintro _ w6 ⟨rfl, hb6⟩
          have c1 := (HBB.out.later hb6).cell 1 _ rfl
          go_wp2_with fail
          refine (L2.out w6 hb6).mono ?_
          rintro _ w7 ⟨rfl, hb7⟩
          have hb67 := hb6.trans (hb7.mono hb6.size)
          have d0 := (HBB.out.later hb67).cell 0 _ rfl
          have d1 := (HBB.out.later hb67).cell 1 _ rfl
          have q7 := Q5.out.trans (hb67.mono Q5.out.size)
          have b7 := HB.out.later q7
          have z0 := b7.cell 0 _ rfl
          have z1 := b7.cell 1 _ rfl
          have f0 := b7.frozen 0
          have f1 := b7.frozen 1
          have hF := Lib.hid ((b7.set 0 (.slice a3 n3 c3)).set 1 (.slice a4 n4 c4))
          have QF := Lib.hid (((Q.out.trans (q7.mono Q.out.size)).setCell (p := ⟨W.heap.size, 0, none⟩) (Nat.le_refl _) (.slice a3 n3 c3)).setCell (p := ⟨W.heap.size, 1, none⟩) (Nat.le_refl _) (.slice a4 n4 c4))
          have b7s : Has (w7.setCell ⟨W.heap.size, 0, none⟩ (.slice a3 n3 c3)) W.heap.size 24 #[.slice a3 n3 c3, .slice none 0 0] := b7.set 0 _
          have KA2 := Lib.hid (((K34.out.later (QQ.out.trans (hb67.mono QQ.out.size))).away b7 0 (.slice a3 n3 c3)).away b7s 1 (.slice a4 n4 c4))
          have KB2 := Lib.hid (((K4.out.later (QQ.out.trans (hb67.mono QQ.out.size))).away b7 0 (.slice a3 n3 c3)).away b7s 1 (.slice a4 n4 c4))
          clear b7s
          have Q7 := Lib.hid (hb67)
          have HZ := Lib.hid (HB.out)
          have M := Lib.hid (makeM_ok H1.out H2.out (by have := H3.out; have := HN3.out; omega) (by have := H4.out; have := HN4.out; omega))
          have b7' := Lib.hid b7
          clear hb6 hb7 hb67 q7 c0 c1 b7
          have HLt := Lib.hid HB.out.lt
          go_wp2_with fail
          refine bodyPost_ret (results_setsB rfl rfl hF.out) rfl ?_
          exact hfin.out _ _ _ 0 _ _ M.out KA2.out KB2.out QF.out
        · rw [h4] at L2
          have H4 := Lib.hid (of_decide_eq_true h4)
          clear h4
          go_wp2_with fail
          refine L1.out.mono ?_
          rintro _ w6 ⟨rfl, hb6⟩
          have c1 := (HBB.out.later hb6).cell 1 _ rfl
          go_wp2_with fail
          refine (L2.out w6 hb6).mono ?_
          rintro _ w7 ⟨rfl, hb7⟩
          have q7 := Q5.out.trans ((hb6.trans (hb7.mono hb6.size)).mono Q5.out.size)
          have QX := Lib.hid (Q.out.trans (q7.mono Q.out.size))
          have bX := HB.out.later q7
          have z0 := bX.cell 0 _ rfl
          have z1 := bX.cell 1 _ rfl
          have f0 := bX.frozen 0
          have f1 := bX.frozen 1
          have hF := Lib.hid ((bX.set 0 (.slice none 0 0)).set 1 (.slice none 0 0))
          have QF := Lib.hid (((QX.out).setCell (p := ⟨W.heap.size, 0, none⟩) (Nat.le_refl _) (.slice none 0 0)).setCell (p := ⟨W.heap.size, 1, none⟩) (Nat.le_refl _) (.slice none 0 0))
          have M := Lib.hid (show makeM r s = ([], [], 2) from by unfold makeM; rw [H1.out, H2.out, if_neg (by decide), if_pos (.inr (by have := H4.out; have := HN4.out; omega))])
          clear bX
          go_wp2_with fail
          refine bodyPost_ret (results_setsB rfl rfl hF.out) rfl ?_
          exact hfin.out _ _ _ 2 _ _ M.out (KeysAt.nil _) (KeysAt.nil _) QF.out
      · rw [h3] at L1
        have H3 := Lib.hid (of_decide_eq_true h3)
        clear h3
        go_wp2_with fail
        refine L1.out.mono ?_
        rintro _ w6 ⟨rfl, hb6⟩
        have q7 := Q5.out.trans (hb6.mono Q5.out.size)
        have QX := Lib.hid (Q.out.trans (q7.mono Q.out.size))
        have bX := HB.out.later q7
        have z0 := bX.cell 0 _ rfl
        have z1 := bX.cell 1 _ rfl
        have f0 := bX.frozen 0
        have f1 := bX.frozen 1
        have hF := Lib.hid ((bX.set 0 (.slice none 0 0)).set 1 (.slice none 0 0))
        have QF := Lib.hid (((QX.out).setCell (p := ⟨W.heap.size, 0, none⟩) (Nat.le_refl _) (.slice none 0 0)).setCell (p := ⟨W.heap.size, 1, none⟩) (Nat.le_refl _) (.slice none 0 0))
        have M := Lib.hid (show makeM r s = ([], [], 2) from by unfold makeM; rw [H1.out, H2.out, if_neg (by decide), if_pos (.inl (by have := H3.out; have := HN3.out; omega))])
        clear bX
        go_wp2_with fail
        refine bodyPost_ret (results_setsB rfl rfl hF.out) rfl ?_
        exact hfin.out _ _ _ 2 _ _ M.out (KeysAt.nil _) (KeysAt.nil _) QF.out
    · rw [h2] at C2
      have H2 := Lib.hid h2
      clear h2
      go_enter Try.func12, Try.ntmps12
      go_wp2_with fail
      refine C1.out.mono ?_
      rintro _ w1 ⟨rfl, hb1⟩
      go_wp2_with fail
      refine (C2.out w1 hb1).mono ?_
      rintro _ w2 ⟨rfl, hb2⟩
      have hb12 := hb1.trans (hb2.mono hb1.size)
      have QX := Lib.hid (Q.out.trans (hb12.mono Q.out.size))
      have bX := HB.out.later hb12
      have z0 := bX.cell 0 _ rfl
      have z1 := bX.cell 1 _ rfl
      have f0 := bX.frozen 0
      have f1 := bX.frozen 1
      have hF := Lib.hid ((bX.set 0 (.slice none 0 0)).set 1 (.slice none 0 0))
      have QF := Lib.hid (((QX.out).setCell (p := ⟨W.heap.size, 0, none⟩) (Nat.le_refl _) (.slice none 0 0)).setCell (p := ⟨W.heap.size, 1, none⟩) (Nat.le_refl _) (.slice none 0 0))
      have M := Lib.hid (show makeM r s = ([], [], 1) from by unfold makeM; rw [H1.out, H2.out, if_pos (by decide)])
      clear bX
      go_wp2_with fail
      refine bodyPost_ret (results_setsB rfl rfl hF.out) rfl ?_
      exact hfin.out _ _ _ 1 _ _ M.out (KeysAt.nil _) (KeysAt.nil _) QF.out
  · rw [h1] at C1
    have H1 := Lib.hid h1
    clear h1
    go_enter Try.func12, Try.ntmps12
    go_wp2_with fail
    refine C1.out.mono ?_
    rintro _ w1 ⟨rfl, hb1⟩
    have QX := Lib.hid (Q.out.trans (hb1.mono Q.out.size))
    have bX := HB.out.later hb1
    have z0 := bX.cell 0 _ rfl
    have z1 := bX.cell 1 _ rfl
    have f0 := bX.frozen 0
    have f1 := bX.frozen 1
    have hF := Lib.hid ((bX.set 0 (.slice none 0 0)).set 1 (.slice none 0 0))
    have QF := Lib.hid (((QX.out).setCell (p := ⟨W.heap.size, 0, none⟩) (Nat.le_refl _) (.slice none 0 0)).setCell (p := ⟨W.heap.size, 1, none⟩) (Nat.le_refl _) (.slice none 0 0))
    have M := Lib.hid (show makeM r s = ([], [], 1) from by unfold makeM; rw [H1.out, Bool.true_or, if_pos rfl])
    clear bX
    go_wp2_with fail
    refine bodyPost_ret (results_setsB rfl rfl hF.out) rfl ?_
    exact hfin.out _ _ _ 1 _ _ M.out (KeysAt.nil _) (KeysAt.nil _) QF.out
end Go.Proofs.Ytbkgipggblphlaa
