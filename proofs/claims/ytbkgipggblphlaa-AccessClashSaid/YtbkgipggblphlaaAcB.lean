/- Join. Conditions: the keys lie in memory. -/
import Derived.Test.YtbkgipggblphlaaAcA
namespace Go.Proofs.Ytbkgipggblphlaa
open Go Go.RowKit
attribute [local go_sem] Oper.semAt_some Grows wide_fn

theorem concat2 (W : World) (C : Nat) (x y : Value) (r r2 : List Ky) (hC : Has W C 22 #[x, y]) (h1 : KeysAt W x r) (h2 : KeysAt W y r2) (hl : r.length + r2.length ≤ 100000) :
    Calls Try.prog 38 #[.slice (some ⟨C, 0, none⟩) 2 2] W fun e w' => ∃ v', e = .returned v' ∧ KeysAt w' v' (r ++ r2) ∧ Below W.heap.size W w' := by
  have h := kconcat_any W C [(x, r), (y, r2)] (fun i q hq => by
    match i, hq with
    | 0, hq => injection hq with hq; subst hq; exact ⟨hC.cell 0 _ rfl, h1⟩
    | 1, hq => injection hq with hq; subst hq; exact ⟨hC.cell 1 _ rfl, h2⟩
    | i + 2, hq => simp at hq) (by simp) (by simp [sumK]; exact hl)
  refine h.mono ?_
  rintro e w' ⟨v', he, hr, hb⟩
  refine ⟨v', he, ?_, hb⟩
  have := hr.keys (fun z hz => by
    simp [catK] at hz
    rcases hz with hz | hz
    · exact h1.all z hz
    · exact h2.all z hz)
  simpa [catK] using this
/-- What Join makes. -/
noncomputable def joinM (r s r2 s2 : List Ky) : List Ky × List Ky × Nat := if (fitB r && fitB s) && (fitB r2 && fitB s2) then makeM (r ++ r2) (s ++ s2) else ([], [], 1)
section
/-- What Join's region knows. -/
def UJ (W : World) (B : Nat) (x1 y1 x2 y2 : Value) (r s m1 m2 : List Ky) (cv : Value) (f : Nat → Bool) (g : Nat → Value) (w : World) : Prop :=
  Below W.heap.size W w ∧ Has w B 24 #[x1, y1] ∧ Has w (B + 1) 24 #[x2, y2] ∧
  (f 4 = true → ∃ C, g 4 = .slice (some ⟨C, 0, none⟩) 2 2 ∧ Has w C 22 #[x1, x2]) ∧
  (f 5 = true → KeysAt w (g 5) r) ∧
  (f 10 = true → ∃ C, g 10 = .slice (some ⟨C, 0, none⟩) 2 2 ∧ Has w C 22 #[y1, y2]) ∧
  (f 11 = true → KeysAt w (g 11) s) ∧
  (f 12 = true → ∃ x y, g 12 = .tuple #[.agg #[x, y], cv] ∧ KeysAt w x m1 ∧ KeysAt w y m2) ∧
  (f 13 = true → ∃ x y, g 12 = .tuple #[.agg #[x, y], cv] ∧ g 13 = .agg #[x, y]) ∧
  (f 15 = false → Has w (B + 1 + 1) 24 #[.slice none 0 0, .slice none 0 0]) ∧
  (f 15 = true → ∃ x y, g 12 = .tuple #[.agg #[x, y], cv] ∧ Has w (B + 1 + 1) 24 #[x, y])
variable {W : World} {B : Nat} {x1 y1 x2 y2 cv : Value} {r s m1 m2 : List Ky} {f : Nat → Bool} {g : Nat → Value} {w w' : World}
theorem UJ.later (h : UJ W B x1 y1 x2 y2 r s m1 m2 cv f g w) (hb : Below w.heap.size w w') : UJ W B x1 y1 x2 y2 r s m1 m2 cv f g w' := by
  obtain ⟨h1, h2, h3, h4, h5, h6, h7, h8, h9, h10, h11⟩ := h
  exact ⟨h1.trans (hb.mono h1.size), h2.later hb, h3.later hb, fun k => let ⟨C, e, j⟩ := h4 k; ⟨C, e, j.later hb⟩, fun k => (h5 k).later hb, fun k => let ⟨C, e, j⟩ := h6 k; ⟨C, e, j.later hb⟩, fun k => (h7 k).later hb,
    fun k => let ⟨x, y, e, j, i⟩ := h8 k; ⟨x, y, e, j.later hb, i.later hb⟩, h9, fun k => (h10 k).later hb, fun k => let ⟨x, y, e, j⟩ := h11 k; ⟨x, y, e, j.later hb⟩⟩
theorem UJ.same {f' : Nat → Bool} {g' : Nat → Value} (h : UJ W B x1 y1 x2 y2 r s m1 m2 cv f g w) (hh : ∀ j, j = 4 ∨ j = 5 ∨ j = 10 ∨ j = 11 ∨ j = 12 ∨ j = 13 ∨ j = 15 → f j = f' j ∧ g j = g' j) : UJ W B x1 y1 x2 y2 r s m1 m2 cv f' g' w := by
  unfold UJ at h ⊢
  rwa [(hh 4 (by omega)).1, (hh 4 (by omega)).2, (hh 5 (by omega)).1, (hh 5 (by omega)).2, (hh 10 (by omega)).1, (hh 10 (by omega)).2, (hh 11 (by omega)).1, (hh 11 (by omega)).2, (hh 12 (by omega)).1, (hh 12 (by omega)).2, (hh 13 (by omega)).1, (hh 13 (by omega)).2, (hh 15 (by omega)).1] at h
theorem UJ.n4 (h : UJ W B x1 y1 x2 y2 r s m1 m2 cv f g w) (hb : Below w.heap.size w w') {C : Nat} (hC : Has w' C 22 #[x1, x2]) : UJ W B x1 y1 x2 y2 r s m1 m2 cv (upd f 4 true) (upd g 4 (.slice (some ⟨C, 0, none⟩) 2 2)) w' := by
  obtain ⟨h1, h2, h3, h4, h5, h6, h7, h8, h9, h10, h11⟩ := h.later hb
  exact ⟨h1, h2, h3, fun _ => ⟨C, by simp [upd], hC⟩, by simpa [upd] using h5, by simpa [upd] using h6, by simpa [upd] using h7, by simpa [upd] using h8, by simpa [upd] using h9, by simpa [upd] using h10, by simpa [upd] using h11⟩
theorem UJ.n5 (h : UJ W B x1 y1 x2 y2 r s m1 m2 cv f g w) (hb : Below w.heap.size w w') {v : Value} (hk : KeysAt w' v r) : UJ W B x1 y1 x2 y2 r s m1 m2 cv (upd f 5 true) (upd g 5 v) w' := by
  obtain ⟨h1, h2, h3, h4, h5, h6, h7, h8, h9, h10, h11⟩ := h.later hb
  exact ⟨h1, h2, h3, by simpa [upd] using h4, fun _ => by simpa [upd] using hk, by simpa [upd] using h6, by simpa [upd] using h7, by simpa [upd] using h8, by simpa [upd] using h9, by simpa [upd] using h10, by simpa [upd] using h11⟩
theorem UJ.n10 (h : UJ W B x1 y1 x2 y2 r s m1 m2 cv f g w) (hb : Below w.heap.size w w') {C : Nat} (hC : Has w' C 22 #[y1, y2]) : UJ W B x1 y1 x2 y2 r s m1 m2 cv (upd f 10 true) (upd g 10 (.slice (some ⟨C, 0, none⟩) 2 2)) w' := by
  obtain ⟨h1, h2, h3, h4, h5, h6, h7, h8, h9, h10, h11⟩ := h.later hb
  exact ⟨h1, h2, h3, by simpa [upd] using h4, by simpa [upd] using h5, fun _ => ⟨C, by simp [upd], hC⟩, by simpa [upd] using h7, by simpa [upd] using h8, by simpa [upd] using h9, by simpa [upd] using h10, by simpa [upd] using h11⟩
theorem UJ.n11 (h : UJ W B x1 y1 x2 y2 r s m1 m2 cv f g w) (hb : Below w.heap.size w w') {v : Value} (hk : KeysAt w' v s) : UJ W B x1 y1 x2 y2 r s m1 m2 cv (upd f 11 true) (upd g 11 v) w' := by
  obtain ⟨h1, h2, h3, h4, h5, h6, h7, h8, h9, h10, h11⟩ := h.later hb
  exact ⟨h1, h2, h3, by simpa [upd] using h4, by simpa [upd] using h5, by simpa [upd] using h6, fun _ => by simpa [upd] using hk, by simpa [upd] using h8, by simpa [upd] using h9, by simpa [upd] using h10, by simpa [upd] using h11⟩
theorem UJ.n12 (h : UJ W B x1 y1 x2 y2 r s m1 m2 cv f g w) (hb : Below w.heap.size w w') (f13 : f 13 = false) (f15 : f 15 = false) {x y : Value} (hk : KeysAt w' x m1) (hk2 : KeysAt w' y m2) : UJ W B x1 y1 x2 y2 r s m1 m2 cv (upd f 12 true) (upd g 12 (.tuple #[.agg #[x, y], cv])) w' := by
  obtain ⟨h1, h2, h3, h4, h5, h6, h7, h8, h9, h10, h11⟩ := h.later hb
  exact ⟨h1, h2, h3, by simpa [upd] using h4, by simpa [upd] using h5, by simpa [upd] using h6, by simpa [upd] using h7, fun _ => ⟨x, y, by simp [upd], hk, hk2⟩, fun k => by simp [upd, f13] at k, by simpa [upd] using h10, fun k => by simp [upd, f15] at k⟩
theorem UJ.n13 (h : UJ W B x1 y1 x2 y2 r s m1 m2 cv f g w) {x y : Value} (e : g 12 = .tuple #[.agg #[x, y], cv]) : UJ W B x1 y1 x2 y2 r s m1 m2 cv (upd f 13 true) (upd g 13 (.agg #[x, y])) w := by
  obtain ⟨h1, h2, h3, h4, h5, h6, h7, h8, h9, h10, h11⟩ := h
  exact ⟨h1, h2, h3, by simpa [upd] using h4, by simpa [upd] using h5, by simpa [upd] using h6, by simpa [upd] using h7, by simpa [upd] using h8, fun _ => ⟨x, y, by simpa [upd] using e, by simp [upd]⟩, by simpa [upd] using h10, by simpa [upd] using h11⟩
theorem UJ.n15 (h : UJ W B x1 y1 x2 y2 r s m1 m2 cv f g w) (f4 : f 4 = true) (f5 : f 5 = true) (f10 : f 10 = true) (f11 : f 11 = true) (f12 : f 12 = true) (f15 : f 15 = false) (hB : W.heap.size ≤ B) {a b : Option Addr} {n c m d : Nat} (e : g 12 = .tuple #[.agg #[.slice a n c, .slice b m d], cv]) (u : Value) :
    UJ W B x1 y1 x2 y2 r s m1 m2 cv (upd f 15 true) (upd g 15 u) (put2 w (B + 1 + 1) (.slice a n c) (.slice b m d)) := by
  obtain ⟨h1, h2, h3, h4, h5, h6, h7, h8, h9, h10, h11⟩ := h
  have hz := h10 f15
  obtain ⟨C, eC, kC⟩ := h4 f4
  obtain ⟨D, eD, kD⟩ := h6 f10
  obtain ⟨x, y, e1, k1, k2⟩ := h8 f12
  have nC : C ≠ B + 1 + 1 := fun e => by
    subst e
    have := kC.symm.trans hz
    injection this with this
    injection this with _ this _
    exact absurd this (by decide)
  have nD : D ≠ B + 1 + 1 := fun e => by
    subst e
    have := kD.symm.trans hz
    injection this with this
    injection this with _ this _
    exact absurd this (by decide)
  exact ⟨below_put2 h1 (by omega) _ _, h2.onPut2_other (by omega) _ _, h3.onPut2_other (by omega) _ _, fun _ => ⟨C, by simpa [upd] using eC, kC.onPut2_other nC _ _⟩, fun _ => by simpa [upd] using (h5 f5).onPut2 hz _,
    fun _ => ⟨D, by simpa [upd] using eD, kD.onPut2_other nD _ _⟩, fun _ => by simpa [upd] using (h7 f11).onPut2 hz _, fun _ => ⟨x, y, by simpa [upd] using e1, k1.onPut2 hz _, k2.onPut2 hz _⟩, by simpa [upd] using h9, by simp [upd], fun _ => ⟨_, _, by simpa [upd] using e, hz.onPut2 _ _⟩⟩
end
set_option maxRecDepth 100000 in
set_option maxHeartbeats 16000000 in
theorem kjoin_any (W : World) (v1 v2 : Value) (r s r2 s2 : List Ky) (hs1 : SetsAt W v1 r s) (hs2 : SetsAt W v2 r2 s2) :
    Calls Try.prog 19 #[v1, v2] W (SetsP W (joinM r s r2 s2).1 (joinM r s r2 s2).2.1 (joinM r s r2 s2).2.2) := by
  have hmx : Try.prog.follows .mixedOrders = true := by kernel_rfl
  have HR1 := Lib.hid (fun (X : World) (hX : Below W.heap.size W X) => kright_any X v1 r s (hs1.later hX))
  have HR2 := Lib.hid (fun (X : World) (hX : Below W.heap.size W X) => kright_any X v2 r2 s2 (hs2.later hX))
  have hfin := Lib.hid (show ∀ (w' : World) (x y : Value) (c : Nat) (a b : List Ky), joinM r s r2 s2 = (a, b, c) → KeysAt w' x a → KeysAt w' y b → Below W.heap.size W w' → SetsP W (joinM r s r2 s2).1 (joinM r s r2 s2).2.1 (joinM r s r2 s2).2.2 (.returned (.tuple #[.agg #[x, y], .int .i64 (c : Int)])) w' from fun w' x y c a b e h1 h2 h3 => by rw [e]; exact ⟨x, y, rfl, h1, h2, h3⟩)
  obtain ⟨Post, hPost⟩ : ∃ Post, SetsP W (joinM r s r2 s2).1 (joinM r s r2 s2).2.1 (joinM r s r2 s2).2.2 = Post := ⟨_, rfl⟩
  rw [hPost] at hfin ⊢
  clear hPost
  obtain ⟨a1, c1, a2, c2, rfl, k1, k2⟩ := hs1.shapes
  obtain ⟨a3, c3, a4, c4, rfl, k3, k4⟩ := hs2.shapes
  obtain ⟨n1, e1⟩ : ∃ n, r.length = n := ⟨_, rfl⟩
  obtain ⟨n2, e2⟩ : ∃ n, s.length = n := ⟨_, rfl⟩
  obtain ⟨n3, e3⟩ : ∃ n, r2.length = n := ⟨_, rfl⟩
  obtain ⟨n4, e4⟩ : ∃ n, s2.length = n := ⟨_, rfl⟩
  rw [e1] at k1 HR1 ⊢
  rw [e2] at k2 HR1 ⊢
  rw [e3] at k3 HR2 ⊢
  rw [e4] at k4 HR2 ⊢
  have HN := Lib.hid (And.intro e1 (And.intro e2 (And.intro e3 e4)))
  have HKS := Lib.hid (And.intro k1 (And.intro k2 (And.intro k3 k4)))
  clear hs1 hs2 e1 e2 e3 e4 k1 k2 k3 k4
  have h0 := ((Has.new W 24 #[.slice a1 n1 c1, .slice a2 n2 c2]).alloc (.cells #[.slice a3 n3 c3, .slice a4 n4 c4] 24)).alloc (.cells #[.slice none 0 0, .slice none 0 0] 24)
  have h1 := (Has.new (W.alloc (.cells #[.slice a1 n1 c1, .slice a2 n2 c2] 24)) 24 #[.slice a3 n3 c3, .slice a4 n4 c4]).alloc (.cells #[.slice none 0 0, .slice none 0 0] 24)
  have h2 := Has.new ((W.alloc (.cells #[.slice a1 n1 c1, .slice a2 n2 c2] 24)).alloc (.cells #[.slice a3 n3 c3, .slice a4 n4 c4] 24)) 24 #[.slice none 0 0, .slice none 0 0]
  simp only [World.size_alloc] at h1 h2
  have q0 := (((Below.refl W.heap.size W).alloc (Nat.le_refl _) (.cells #[.slice a1 n1 c1, .slice a2 n2 c2] 24)).alloc (by simp) (.cells #[.slice a3 n3 c3, .slice a4 n4 c4] 24)).alloc (by simp; omega) (.cells #[.slice none 0 0, .slice none 0 0] 24)
  obtain ⟨V, hV⟩ : ∃ V, ((W.alloc (.cells #[.slice a1 n1 c1, .slice a2 n2 c2] 24)).alloc (.cells #[.slice a3 n3 c3, .slice a4 n4 c4] 24)).alloc (.cells #[.slice none 0 0, .slice none 0 0] 24) = V := ⟨_, rfl⟩
  rw [hV] at h0 h1 h2 q0
  have H1 := Lib.hid h0
  have H2 := Lib.hid h1
  have H3 := Lib.hid h2
  have Q0 := Lib.hid q0
  have HRV := Lib.hid (HR1.out V q0)
  have b0 := h0.cell 0 _ rfl
  have b1 := h0.cell 1 _ rfl
  clear h0 h1 h2 q0
  cases hr1 : (fitB r && fitB s)
  · rw [hr1] at HRV
    have HF1 := Lib.hid hr1
    clear hr1
    go_enter Try.func19, Try.ntmps19
    go_wp2_with fail
    refine HRV.out.mono ?_
    rintro _ w1 ⟨rfl, hb1⟩
    have z := H3.out.later hb1
    have z0 := z.cell 0 _ rfl
    have z1 := z.cell 1 _ rfl
    have f0 := z.frozen 0
    have f1 := z.frozen 1
    have QX := Lib.hid (Q0.out.trans (hb1.mono Q0.out.size))
    have HF := Lib.hid ((z.set 0 (.slice none 0 0)).set 1 (.slice none 0 0))
    have QF := Lib.hid ((QX.out.setCell (p := ⟨W.heap.size + 1 + 1, 0, none⟩) (by show W.heap.size ≤ W.heap.size + 1 + 1; omega) (.slice none 0 0)).setCell (p := ⟨W.heap.size + 1 + 1, 1, none⟩) (by show W.heap.size ≤ W.heap.size + 1 + 1; omega) (.slice none 0 0))
    have M := Lib.hid (show joinM r s r2 s2 = ([], [], 1) from by unfold joinM; rw [HF1.out, Bool.false_and, if_neg (by decide)])
    clear z
    go_wp2_with fail
    refine bodyPost_ret (results_setsB rfl rfl HF.out) rfl ?_
    exact hfin.out _ _ _ 1 _ _ M.out (KeysAt.nil _) (KeysAt.nil _) QF.out
  · rw [hr1] at HRV
    have HF1 := Lib.hid hr1
    clear hr1
    cases hr2 : (fitB r2 && fitB s2)
    · rw [hr2] at HR2
      have HF2 := Lib.hid hr2
      clear hr2
      go_enter Try.func19, Try.ntmps19
      go_wp2_with fail
      refine HRV.out.mono ?_
      rintro _ w1 ⟨rfl, hb1⟩
      have d0 := (H2.out.later hb1).cell 0 _ rfl
      have d1 := (H2.out.later hb1).cell 1 _ rfl
      go_wp2_with fail
      refine (HR2.out w1 (Q0.out.trans (hb1.mono Q0.out.size))).mono ?_
      rintro _ w2 ⟨rfl, hb2⟩
      have hb12 := hb1.trans (hb2.mono hb1.size)
      clear b0 b1 d0 d1
      have z := H3.out.later hb12
      have z0 := z.cell 0 _ rfl
      have z1 := z.cell 1 _ rfl
      have f0 := z.frozen 0
      have f1 := z.frozen 1
      have QX := Lib.hid (Q0.out.trans (hb12.mono Q0.out.size))
      have HF := Lib.hid ((z.set 0 (.slice none 0 0)).set 1 (.slice none 0 0))
      have QF := Lib.hid ((QX.out.setCell (p := ⟨W.heap.size + 1 + 1, 0, none⟩) (by show W.heap.size ≤ W.heap.size + 1 + 1; omega) (.slice none 0 0)).setCell (p := ⟨W.heap.size + 1 + 1, 1, none⟩) (by show W.heap.size ≤ W.heap.size + 1 + 1; omega) (.slice none 0 0))
      have M := Lib.hid (show joinM r s r2 s2 = ([], [], 1) from by unfold joinM; rw [HF1.out, HF2.out, if_neg (by decide)])
      clear z
      go_wp2_with fail
      refine bodyPost_ret (results_setsB rfl rfl HF.out) rfl ?_
      exact hfin.out _ _ _ 1 _ _ M.out (KeysAt.nil _) (KeysAt.nil _) QF.out
    · rw [hr2] at HR2
      have HF2 := Lib.hid hr2
      clear hr2
      have M := Lib.hid (show joinM r s r2 s2 = ((makeM (r ++ r2) (s ++ s2)).1, (makeM (r ++ r2) (s ++ s2)).2.1, (makeM (r ++ r2) (s ++ s2)).2.2) from by unfold joinM; rw [HF1.out, HF2.out, if_pos (by decide)])
      have hl1 : r.length ≤ 200 ∧ s.length ≤ 200 := by
        have := HF1.out
        unfold fitB at this
        simp only [Bool.and_eq_true, decide_eq_true_eq] at this
        exact ⟨this.1.1.1, this.2.1.1⟩
      have hl2 : r2.length ≤ 200 ∧ s2.length ≤ 200 := by
        have := HF2.out
        unfold fitB at this
        simp only [Bool.and_eq_true, decide_eq_true_eq] at this
        exact ⟨this.1.1.1, this.2.1.1⟩
      have HC1 := Lib.hid (fun (X : World) (hX : Below W.heap.size W X) (C : Nat) (hC : Has X C 22 #[.slice a1 n1 c1, .slice a3 n3 c3]) => concat2 X C _ _ r r2 hC (HKS.out.1.later hX) (HKS.out.2.2.1.later hX) (by omega))
      have HC2 := Lib.hid (fun (X : World) (hX : Below W.heap.size W X) (C : Nat) (hC : Has X C 22 #[.slice a2 n2 c2, .slice a4 n4 c4]) => concat2 X C _ _ s s2 hC (HKS.out.2.1.later hX) (HKS.out.2.2.2.later hX) (by omega))
      have HM := Lib.hid (fun (X : World) (x y : Value) (hx : KeysAt X x (r ++ r2)) (hy : KeysAt X y (s ++ s2)) => (make_any X x y (r ++ r2) (s ++ s2) hx hy (by rw [List.length_append]; omega) (by rw [List.length_append]; omega)).mono fun e w' h => h.ex)
      clear hl1 hl2
      generalize (makeM (r ++ r2) (s ++ s2)).1 = m1 at *
      generalize (makeM (r ++ r2) (s ++ s2)).2.1 = m2 at *
      generalize (makeM (r ++ r2) (s ++ s2)).2.2 = m3 at *
      go_enter Try.func19, Try.ntmps19
      go_wp2_with fail
      refine HRV.out.mono ?_
      rintro _ w1 ⟨rfl, hb1⟩
      have d0 := (H2.out.later hb1).cell 0 _ rfl
      have d1 := (H2.out.later hb1).cell 1 _ rfl
      go_wp2_with fail
      refine (HR2.out w1 (Q0.out.trans (hb1.mono Q0.out.size))).mono ?_
      rintro _ w2 ⟨rfl, hb2⟩
      have hb12 := hb1.trans (hb2.mono hb1.size)
      have X1 := Lib.hid (H1.out.later hb12)
      have X2 := Lib.hid (H2.out.later hb12)
      have X3 := Lib.hid (H3.out.later hb12)
      have QX := Lib.hid (Q0.out.trans (hb12.mono Q0.out.size))
      clear b0 b1 d0 d1 hb1 hb2 hb12 hV
      go_wp2_with fail
      refine wp_region_ghost [some (.pointer (some ⟨W.heap.size, 0, none⟩)), some (.slice a1 n1 c1), some (.pointer (some ⟨W.heap.size + 1, 0, none⟩)), some (.slice a3 n3 c3), none, none, some (.pointer (some ⟨W.heap.size, 1, none⟩)), some (.slice a2 n2 c2), some (.pointer (some ⟨W.heap.size + 1, 1, none⟩)), some (.slice a4 n4 c4), none, none, none, none, some (.int .i64 (m3 : Int)), none, some (.int .i64 (m3 : Int))] [[], [0], [], [2], [0, 1, 2, 3], [0, 1, 2, 3, 4], [], [6], [], [8], [6, 7, 8, 9], [0, 1, 2, 3, 4, 5, 6, 7, 8, 9, 10], [0, 1, 2, 3, 4, 5, 6, 7, 8, 9, 10, 11], [0, 1, 2, 3, 4, 5, 6, 7, 8, 9, 10, 11, 12], [0, 1, 2, 3, 4, 5, 6, 7, 8, 9, 10, 11, 12], [0, 1, 2, 3, 4, 5, 6, 7, 8, 9, 10, 11, 12, 13, 14], [0, 1, 2, 3, 4, 5, 6, 7, 8, 9, 10, 11, 12, 13, 14, 15]] (UJ W W.heap.size (.slice a1 n1 c1) (.slice a2 n2 c2) (.slice a3 n3 c3) (.slice a4 n4 c4) (r ++ r2) (s ++ s2) m1 m2 (.int .i64 (m3 : Int))) hmx (by kernel_rfl) (by kernel_rfl) (fun f g wa wb h hb => h.later hb) (fun f f' g g' wa h => fun hh => hh.same (fun j hj => h j (by rcases hj with rfl | rfl | rfl | rfl | rfl | rfl | rfl <;> rfl))) ?_ ?_
      · exact UJ.later (show UJ W W.heap.size (.slice a1 n1 c1) (.slice a2 n2 c2) (.slice a3 n3 c3) (.slice a4 n4 c4) (r ++ r2) (s ++ s2) m1 m2 (.int .i64 (m3 : Int)) (fun _ => false) (fun _ => undef) w2 from ⟨QX.out, X1.out, X2.out, fun h => absurd h (by simp), fun h => absurd h (by simp), fun h => absurd h (by simp), fun h => absurd h (by simp), fun h => absurd h (by simp), fun h => absurd h (by simp), fun _ => X3.out, fun h => absurd h (by simp)⟩) (Below.refl _ _).drew
      rintro f g y hU Dn
      refine GW.known _ rfl (fun hd hf => ?_) ?_
      · clear hU Dn hd
        go_wp2_with fail
        exact ⟨rfl, rfl, Below.refl _ _⟩
      simp only [Act.put, List.setIfInBounds_toArray, List.set_cons_succ, List.set_cons_zero]
      refine GW.known _ rfl (fun hd hf => ?_) ?_
      · have c := hU.2.1.cell 0 _ rfl
        clear hU Dn hd
        go_wp2_with fail
        exact ⟨rfl, rfl, Below.refl _ _⟩
      simp only [Act.put, List.setIfInBounds_toArray, List.set_cons_succ, List.set_cons_zero]
      refine GW.known _ rfl (fun hd hf => ?_) ?_
      · clear hU Dn hd
        go_wp2_with fail
        exact ⟨rfl, rfl, Below.refl _ _⟩
      simp only [Act.put, List.setIfInBounds_toArray, List.set_cons_succ, List.set_cons_zero]
      refine GW.known _ rfl (fun hd hf => ?_) ?_
      · have c := hU.2.2.1.cell 0 _ rfl
        clear hU Dn hd
        go_wp2_with fail
        exact ⟨rfl, rfl, Below.refl _ _⟩
      simp only [Act.put, List.setIfInBounds_toArray, List.set_cons_succ, List.set_cons_zero]
      refine GW.open rfl (fun hd hf => ?_) ?_
      · have hC := Has.new y 22 #[.slice a1 n1 c1, .slice a3 n3 c3]
        have hm := hU.n4 ((Below.refl y.heap.size y).alloc (Nat.le_refl _) (.cells #[.slice a1 n1 c1, .slice a3 n3 c3] 22)) hC
        clear hU Dn hd hC
        go_wp2_with fail
        exact ⟨rfl, hm⟩
      simp only [Act.put, List.setIfInBounds_toArray, List.set_cons_succ, List.set_cons_zero]
      refine GW.open rfl (fun hd hf => ?_) ?_
      · obtain ⟨C, eC, kC⟩ := hU.2.2.2.1 (hd 4 (by decide))
        have HC := HC1.out y hU.1 C kC
        have hfin := fun (w' : World) (v : Value) (hb : Below y.heap.size y w') hk => hU.n5 hb (v := v) hk
        rw [eC]
        clear hU Dn hd eC kC
        go_wp2_with fail
        refine HC.mono ?_
        rintro e u ⟨v', rfl, hk, hb⟩
        have hfin' := hfin u v' hb hk
        clear hfin HC hk hb
        go_wp2
        exact ⟨rfl, hfin'⟩
      simp only [Act.put, List.setIfInBounds_toArray, List.set_cons_succ, List.set_cons_zero]
      refine GW.known _ rfl (fun hd hf => ?_) ?_
      · clear hU Dn hd
        go_wp2_with fail
        exact ⟨rfl, rfl, Below.refl _ _⟩
      simp only [Act.put, List.setIfInBounds_toArray, List.set_cons_succ, List.set_cons_zero]
      refine GW.known _ rfl (fun hd hf => ?_) ?_
      · have c := hU.2.1.cell 1 _ rfl
        clear hU Dn hd
        go_wp2_with fail
        exact ⟨rfl, rfl, Below.refl _ _⟩
      simp only [Act.put, List.setIfInBounds_toArray, List.set_cons_succ, List.set_cons_zero]
      refine GW.known _ rfl (fun hd hf => ?_) ?_
      · clear hU Dn hd
        go_wp2_with fail
        exact ⟨rfl, rfl, Below.refl _ _⟩
      simp only [Act.put, List.setIfInBounds_toArray, List.set_cons_succ, List.set_cons_zero]
      refine GW.known _ rfl (fun hd hf => ?_) ?_
      · have c := hU.2.2.1.cell 1 _ rfl
        clear hU Dn hd
        go_wp2_with fail
        exact ⟨rfl, rfl, Below.refl _ _⟩
      simp only [Act.put, List.setIfInBounds_toArray, List.set_cons_succ, List.set_cons_zero]
      refine GW.open rfl (fun hd hf => ?_) ?_
      · have hC := Has.new y 22 #[.slice a2 n2 c2, .slice a4 n4 c4]
        have hm := hU.n10 ((Below.refl y.heap.size y).alloc (Nat.le_refl _) (.cells #[.slice a2 n2 c2, .slice a4 n4 c4] 22)) hC
        clear hU Dn hd hC
        go_wp2_with fail
        exact ⟨rfl, hm⟩
      simp only [Act.put, List.setIfInBounds_toArray, List.set_cons_succ, List.set_cons_zero]
      refine GW.open rfl (fun hd hf => ?_) ?_
      · obtain ⟨C, eC, kC⟩ := hU.2.2.2.2.2.1 (hd 10 (by decide))
        have HC := HC2.out y hU.1 C kC
        have hfin := fun (w' : World) (v : Value) (hb : Below y.heap.size y w') hk => hU.n11 hb (v := v) hk
        rw [eC]
        clear hU Dn hd eC kC
        go_wp2_with fail
        refine HC.mono ?_
        rintro e u ⟨v', rfl, hk, hb⟩
        have hfin' := hfin u v' hb hk
        clear hfin HC hk hb
        go_wp2
        exact ⟨rfl, hfin'⟩
      simp only [Act.put, List.setIfInBounds_toArray, List.set_cons_succ, List.set_cons_zero]
      refine GW.open rfl (fun hd hf => ?_) ?_
      · have k5 := hU.2.2.2.2.1 (hd 5 (by decide))
        have k11 := hU.2.2.2.2.2.2.1 (hd 11 (by decide))
        have f13 : f 13 = false := (by cases h : f 13 with | false => rfl | true => exact absurd (Dn 13 h 12 (by decide)) (by rw [hf]; simp))
        have f15 : f 15 = false := (by cases h : f 15 with | false => rfl | true => exact absurd (Dn 15 h 12 (by decide)) (by rw [hf]; simp))
        have HC := HM.out y _ _ k5 k11
        have hfin := fun (w' : World) (x z : Value) (hb : Below y.heap.size y w') hk hk2 => hU.n12 hb f13 f15 (x := x) (y := z) hk hk2
        obtain ⟨p5, q5, e5, _⟩ := k5.shape
        obtain ⟨p11, q11, e11, _⟩ := k11.shape
        clear hU Dn hd k5 k11 f13 f15
        rw [e5, e11] at HC ⊢
        clear e5 e11
        generalize (r ++ r2).length = n5 at *
        generalize (s ++ s2).length = n11 at *
        replace HC := Lib.hid HC
        go_wp2_with fail
        refine HC.out.mono ?_
        rintro e u ⟨x, z, rfl, hk, hk2, hb⟩
        have hfin' := hfin u x z hb hk hk2
        clear hfin HC hk hk2 hb
        go_wp2
        exact ⟨rfl, hfin'⟩
      simp only [Act.put, List.setIfInBounds_toArray, List.set_cons_succ, List.set_cons_zero]
      refine GW.open rfl (fun hd hf => ?_) ?_
      · obtain ⟨x, z, e, _⟩ := hU.2.2.2.2.2.2.2.1 (hd 12 (by decide))
        have hm := hU.n13 e
        rw [e]
        clear hU Dn hd e
        go_wp2_with fail
        exact ⟨rfl, hm⟩
      simp only [Act.put, List.setIfInBounds_toArray, List.set_cons_succ, List.set_cons_zero]
      refine GW.known _ rfl (fun hd hf => ?_) ?_
      · obtain ⟨x, z, e, _⟩ := hU.2.2.2.2.2.2.2.1 (hd 12 (by decide))
        rw [e]
        clear hU Dn hd e
        go_wp2_with fail
        exact ⟨rfl, rfl, Below.refl _ _⟩
      simp only [Act.put, List.setIfInBounds_toArray, List.set_cons_succ, List.set_cons_zero]
      refine GW.open rfl (fun hd hf => ?_) ?_
      · obtain ⟨x, z, e, k1, k2⟩ := hU.2.2.2.2.2.2.2.1 (hd 12 (by decide))
        obtain ⟨x', z', e', e13⟩ := hU.2.2.2.2.2.2.2.2.1 (hd 13 (by decide))
        rw [e] at e'
        have exz : x' = x ∧ z' = z := by
          have h := e'.symm
          simp at h
          exact h
        obtain ⟨rfl, rfl⟩ := exz
        obtain ⟨p1, q1, rfl, _⟩ := k1.shape
        obtain ⟨p2, q2, rfl, _⟩ := k2.shape
        have hz := hU.2.2.2.2.2.2.2.2.2.1 hf
        have z0 := hz.cell 0 _ rfl
        have z1 := hz.cell 1 _ rfl
        have f0 := hz.frozen 0
        have f1 := hz.frozen 1
        have hm := fun u => hU.n15 (hd 4 (by decide)) (hd 5 (by decide)) (hd 10 (by decide)) (hd 11 (by decide)) (hd 12 (by decide)) hf (Nat.le_refl _) e u
        rw [e13]
        clear hU Dn hd e e' e13 k1 k2 hz
        go_wp2_with fail
        exact ⟨rfl, hm _⟩
      simp only [Act.put, List.setIfInBounds_toArray, List.set_cons_succ, List.set_cons_zero]
      refine GW.known _ rfl (fun hd hf => ?_) ?_
      · clear hU Dn hd
        go_wp2_with fail
        exact ⟨rfl, rfl, Below.refl _ _⟩
      simp only [Act.put, List.setIfInBounds_toArray, List.set_cons_succ, List.set_cons_zero]
      refine GW.nil fun hall => ?_
      obtain ⟨x, z, ex, kx, kz⟩ := hU.2.2.2.2.2.2.2.1 (hall 12 (by decide))
      obtain ⟨x', z', ex', HB⟩ := hU.2.2.2.2.2.2.2.2.2.2 (hall 15 (by decide))
      rw [ex] at ex'
      have exz : x' = x ∧ z' = z := by
        have h := ex'.symm
        simp at h
        exact h
      obtain ⟨rfl, rfl⟩ := exz
      have HF := Lib.hid HB
      have QF := Lib.hid hU.1
      have KX := Lib.hid kx
      have KZ := Lib.hid kz
      clear hU Dn hall ex ex' HB kx kz
      go_wp2_with fail
      refine bodyPost_ret (results_setsB rfl rfl HF.out) rfl ?_
      exact hfin.out _ _ _ m3 _ _ M.out KX.out KZ.out QF.out
end Go.Proofs.Ytbkgipggblphlaa
