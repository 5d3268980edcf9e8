/- Clash. Conditions: the keys lie in memory. -/
import Derived.Test.YtbkgipggblphlaaAcZ
namespace Go.Proofs.Ytbkgipggblphlaa
open Go Go.RowKit
attribute [local go_sem] Oper.semAt_some Grows wide_fn

theorem meetB_set (a b : List Ky) : meetB (setL a) (setL b) = meetB a b := by
  rw [Bool.eq_iff_iff]
  unfold meetB
  simp only [List.any_eq_true, decide_eq_true_eq]
  constructor
  · rintro ⟨x, h1, y, h2, rfl⟩
    exact ⟨x, (setL_mem _ _).1 h1, x, (setL_mem _ _).1 h2, rfl⟩
  · rintro ⟨x, h1, y, h2, rfl⟩
    exact ⟨x, (setL_mem _ _).2 h1, x, (setL_mem _ _).2 h2, rfl⟩
/-- Are sets in each other's way? -/
def clashM (r s r2 s2 : List Ky) : Bool := meetB s s2 || meetB s r2 || meetB r s2
theorem SetsAt.shapes {W : World} {v : Value} {r s : List Ky} (h : SetsAt W v r s) : ∃ a c b d, v = .agg #[.slice a r.length c, .slice b s.length d] ∧ KeysAt W (.slice a r.length c) r ∧ KeysAt W (.slice b s.length d) s := by
  obtain ⟨x, y, e, h1, h2⟩ := h.ex
  obtain ⟨a, c, rfl, _⟩ := h1.shape
  obtain ⟨b, d, rfl, _⟩ := h2.shape
  exact ⟨a, c, b, d, e, h1, h2⟩
theorem SetsAt.onPut2 {w : World} {v : Value} {r s : List Ky} (hs : SetsAt w v r s) {B : Nat} {t : TypeId} {a b a' : Option Addr} {n c m d n' c' : Nat} (h : Has w B t #[.slice a n c, .slice b m d]) (y : Value) : SetsAt (put2 w B (.slice a' n' c') y) v r s := by
  obtain ⟨x, z, e, h1, h2⟩ := hs.ex
  exact ⟨x, z, e, h1.onPut2 h y, h2.onPut2 h y⟩
section
variable {W : World} {B : Nat} {a1 a2 a3 a4 : Option Addr} {n1 n2 n3 n4 c1 c2 c3 c4 : Nat} {r s r2 s2 : List Ky}
/-- What Clash's first region knows. -/
def UC (W : World) (B : Nat) (x1 y1 x2 y2 : Value) (r s r2 s2 : List Ky) (f : Nat → Bool) (g : Nat → Value) (w : World) : Prop :=
  Below W.heap.size W w ∧ (f 4 = false → Has w B 24 #[x1, y1]) ∧ (f 5 = false → Has w (B + 1) 24 #[x2, y2]) ∧ (f 1 = true → SetsAt w (g 1) r s) ∧ (f 3 = true → SetsAt w (g 3) r2 s2) ∧
  (f 4 = true → ∃ x y, g 1 = .agg #[x, y] ∧ Has w B 24 #[x, y]) ∧ (f 5 = true → ∃ x y, g 3 = .agg #[x, y] ∧ Has w (B + 1) 24 #[x, y])
variable {x1 y1 x2 y2 : Value} {f : Nat → Bool} {g : Nat → Value} {w w' : World}
theorem UC.later (h : UC W B x1 y1 x2 y2 r s r2 s2 f g w) (hb : Below w.heap.size w w') : UC W B x1 y1 x2 y2 r s r2 s2 f g w' :=
  ⟨h.1.trans (hb.mono h.1.size), fun k => (h.2.1 k).later hb, fun k => (h.2.2.1 k).later hb, fun k => (h.2.2.2.1 k).later hb, fun k => (h.2.2.2.2.1 k).later hb, fun k => let ⟨x, y, e, j⟩ := h.2.2.2.2.2.1 k; ⟨x, y, e, j.later hb⟩, fun k => let ⟨x, y, e, j⟩ := h.2.2.2.2.2.2 k; ⟨x, y, e, j.later hb⟩⟩
theorem UC.same {f' : Nat → Bool} {g' : Nat → Value} (h : UC W B x1 y1 x2 y2 r s r2 s2 f g w) (hh : ∀ j, j = 1 ∨ j = 3 ∨ j = 4 ∨ j = 5 → f j = f' j ∧ g j = g' j) : UC W B x1 y1 x2 y2 r s r2 s2 f' g' w := by
  unfold UC at h ⊢
  rwa [(hh 1 (by omega)).1, (hh 1 (by omega)).2, (hh 3 (by omega)).1, (hh 3 (by omega)).2, (hh 4 (by omega)).1, (hh 5 (by omega)).1] at h
theorem UC.call1 (h : UC W B x1 y1 x2 y2 r s r2 s2 f g w) (hb : Below w.heap.size w w') (f4 : f 4 = false) {v : Value} (hk : SetsAt w' v r s) : UC W B x1 y1 x2 y2 r s r2 s2 (upd f 1 true) (upd g 1 v) w' := by
  obtain ⟨h1, h2, h3, h4, h5, h6, h7⟩ := h.later hb
  exact ⟨h1, by simpa [upd] using h2, by simpa [upd] using h3, fun _ => by simpa [upd] using hk, by simpa [upd] using h5, by simp [upd, f4], by simpa [upd] using h7⟩
theorem UC.call3 (h : UC W B x1 y1 x2 y2 r s r2 s2 f g w) (hb : Below w.heap.size w w') (f5 : f 5 = false) {v : Value} (hk : SetsAt w' v r2 s2) : UC W B x1 y1 x2 y2 r s r2 s2 (upd f 3 true) (upd g 3 v) w' := by
  obtain ⟨h1, h2, h3, h4, h5, h6, h7⟩ := h.later hb
  exact ⟨h1, by simpa [upd] using h2, by simpa [upd] using h3, by simpa [upd] using h4, fun _ => by simpa [upd] using hk, by simpa [upd] using h6, by simp [upd, f5]⟩
theorem UC.s4 (h : UC W B (.slice a1 n1 c1) (.slice a2 n2 c2) x2 y2 r s r2 s2 f g w) (f1 : f 1 = true) (f4 : f 4 = false) (f5 : f 5 = false) (hB : W.heap.size ≤ B) {a b : Option Addr} {n c m d : Nat} (e : g 1 = .agg #[.slice a n c, .slice b m d]) (u : Value) :
    UC W B (.slice a1 n1 c1) (.slice a2 n2 c2) x2 y2 r s r2 s2 (upd f 4 true) (upd g 4 u) (put2 w B (.slice a n c) (.slice b m d)) := by
  obtain ⟨h1, h2, h3, h4, h5, h6, h7⟩ := h
  have hz := h2 f4
  exact ⟨below_put2 h1 hB _ _, by simp [upd], fun k => (h3 (by simpa [upd] using k)).onPut2_other (by omega) _ _, fun k => by simpa [upd] using (h4 f1).onPut2 hz _, fun k => by simpa [upd] using (h5 (by simpa [upd] using k)).onPut2 hz _,
    fun _ => ⟨_, _, by simpa [upd] using e, hz.onPut2 _ _⟩, fun k => by simp [upd, f5] at k⟩
theorem UC.s5 (h : UC W B x1 y1 (.slice a3 n3 c3) (.slice a4 n4 c4) r s r2 s2 f g w) (f3 : f 3 = true) (f1 : f 1 = true) (f4 : f 4 = true) (f5 : f 5 = false) (hB : W.heap.size ≤ B) {a b : Option Addr} {n c m d : Nat} (e : g 3 = .agg #[.slice a n c, .slice b m d]) (u : Value) :
    UC W B x1 y1 (.slice a3 n3 c3) (.slice a4 n4 c4) r s r2 s2 (upd f 5 true) (upd g 5 u) (put2 w (B + 1) (.slice a n c) (.slice b m d)) := by
  obtain ⟨h1, h2, h3, h4, h5, h6, h7⟩ := h
  have hz := h3 f5
  refine ⟨below_put2 h1 (by omega) _ _, fun k => by simp [upd, f4] at k, by simp [upd], fun k => by simpa [upd] using (h4 f1).onPut2 hz _, fun k => by simpa [upd] using (h5 f3).onPut2 hz _, fun _ => ?_, fun _ => ⟨_, _, by simpa [upd] using e, hz.onPut2 _ _⟩⟩
  obtain ⟨x, y, e1, k1⟩ := h6 f4
  exact ⟨x, y, by simpa [upd] using e1, k1.onPut2_other (by omega) _ _⟩
end
set_option maxRecDepth 100000 in
set_option maxHeartbeats 8000000 in
theorem kclash_any (W : World) (v1 v2 : Value) (r s r2 s2 : List Ky) (hs1 : SetsAt W v1 r s) (hs2 : SetsAt W v2 r2 s2) (l1 : r.length ≤ 100000) (l2 : s.length ≤ 100000) (l3 : r2.length ≤ 100000) (l4 : s2.length ≤ 100000) :
    Calls Try.prog 21 #[v1, v2] W fun e w' => e = .returned (.bool (clashM r s r2 s2)) ∧ Below W.heap.size W w' := by
  have hmx : Try.prog.follows .mixedOrders = true := by kernel_rfl
  have HI1 := Lib.hid (fun (X : World) (hX : Below W.heap.size W X) => inorder_any X v1 r s (hs1.later hX) l1 l2)
  have HI2 := Lib.hid (fun (X : World) (hX : Below W.heap.size W X) => inorder_any X v2 r2 s2 (hs2.later hX) l3 l4)
  obtain ⟨a1, c1, a2, c2, rfl, _, _⟩ := hs1.shapes
  obtain ⟨a3, c3, a4, c4, rfl, _, _⟩ := hs2.shapes
  obtain ⟨cv, hcv⟩ : ∃ cv, clashM r s r2 s2 = cv := ⟨_, rfl⟩
  have HCV := Lib.hid (show (meetB (setL s) (setL s2) || meetB (setL s) (setL r2) || meetB (setL r) (setL s2)) = cv by rw [meetB_set, meetB_set, meetB_set]; exact hcv)
  rw [hcv]
  clear hcv hs1 hs2 l1 l2 l3 l4
  generalize r.length = n1 at *
  generalize s.length = n2 at *
  generalize r2.length = n3 at *
  generalize s2.length = n4 at *
  have hU1 := setL_up r
  have hU2 := setL_up s
  have hU3 := setL_up r2
  have hU4 := setL_up s2
  generalize setL r = R at *
  generalize setL s = S at *
  generalize setL r2 = R2 at *
  generalize setL s2 = S2 at *
  have HUU := Lib.hid (And.intro hU1 (And.intro hU2 (And.intro hU3 hU4)))
  clear hU1 hU2 hU3 hU4
  have h0 := (Has.new W 24 #[.slice a1 n1 c1, .slice a2 n2 c2]).alloc (.cells #[.slice a3 n3 c3, .slice a4 n4 c4] 24)
  have h1 := Has.new (W.alloc (.cells #[.slice a1 n1 c1, .slice a2 n2 c2] 24)) 24 #[.slice a3 n3 c3, .slice a4 n4 c4]
  simp only [World.size_alloc] at h1
  have q0 := ((Below.refl W.heap.size W).alloc (Nat.le_refl _) (.cells #[.slice a1 n1 c1, .slice a2 n2 c2] 24)).alloc (by simp) (.cells #[.slice a3 n3 c3, .slice a4 n4 c4] 24)
  obtain ⟨V, hV⟩ : ∃ V, (W.alloc (.cells #[.slice a1 n1 c1, .slice a2 n2 c2] 24)).alloc (.cells #[.slice a3 n3 c3, .slice a4 n4 c4] 24) = V := ⟨_, rfl⟩
  rw [hV] at h0 h1 q0
  have H0 := Lib.hid h0
  have H1 := Lib.hid h1
  have Q0 := Lib.hid q0
  clear h0 h1 q0
  go_enter Try.func21, Try.ntmps21
  go_wp2_with fail
  refine wp_region_ghost [some (.agg #[.slice a1 n1 c1, .slice a2 n2 c2]), none, some (.agg #[.slice a3 n3 c3, .slice a4 n4 c4]), none, none, none] [[], [0], [], [0, 1, 2], [0, 1, 2, 3], [0, 1, 2, 3, 4]] (UC W W.heap.size (.slice a1 n1 c1) (.slice a2 n2 c2) (.slice a3 n3 c3) (.slice a4 n4 c4) R S R2 S2) hmx (by kernel_rfl) (by kernel_rfl) (fun f g wa wb h hb => h.later hb) (fun f f' g g' wa h => fun hh => hh.same (fun j hj => h j (by rcases hj with rfl | rfl | rfl | rfl <;> rfl))) ?_ ?_
  · exact UC.later (show UC W W.heap.size (.slice a1 n1 c1) (.slice a2 n2 c2) (.slice a3 n3 c3) (.slice a4 n4 c4) R S R2 S2 (fun _ => false) (fun _ => undef) V from ⟨Q0.out, fun _ => H0.out, fun _ => H1.out, fun h => absurd h (by simp), fun h => absurd h (by simp), fun h => absurd h (by simp), fun h => absurd h (by simp)⟩) (Below.refl _ _).drew
  rintro f g y hU Dn
  refine GW.known _ rfl (fun hd hf => ?_) ?_
  · have f4 : f 4 = false := (by cases h : f 4 with | false => rfl | true => exact absurd (Dn 4 h 0 (by decide)) (by rw [hf]; simp))
    have z := hU.2.1 f4
    have z0 := z.cell 0 _ rfl
    have z1 := z.cell 1 _ rfl
    clear hU Dn hd z f4
    go_wp2_with fail
    exact ⟨rfl, rfl, Below.refl _ _⟩
  simp only [Act.put, List.setIfInBounds_toArray, List.set_cons_succ, List.set_cons_zero]
  refine GW.open rfl (fun hd hf => ?_) ?_
  · have f4 : f 4 = false := (by cases h : f 4 with | false => rfl | true => exact absurd (Dn 4 h 1 (by decide)) (by rw [hf]; simp))
    have HC := HI1.out y hU.1
    have hfin := fun (w' : World) (v : Value) (hb : Below y.heap.size y w') hk => hU.call1 hb f4 (v := v) hk
    clear hU Dn hd f4
    go_wp2_with fail
    refine HC.mono ?_
    rintro e u ⟨v', rfl, hk, hb⟩
    have hfin' := hfin u v' hb hk
    clear hfin HC hk hb
    go_wp2
    exact ⟨rfl, hfin'⟩
  simp only [Act.put, List.setIfInBounds_toArray, List.set_cons_succ, List.set_cons_zero]
  refine GW.known _ rfl (fun hd hf => ?_) ?_
  · have f5 : f 5 = false := (by cases h : f 5 with | false => rfl | true => exact absurd (Dn 5 h 2 (by decide)) (by rw [hf]; simp))
    have z := hU.2.2.1 f5
    have z0 := z.cell 0 _ rfl
    have z1 := z.cell 1 _ rfl
    clear hU Dn hd z f5
    go_wp2_with fail
    exact ⟨rfl, rfl, Below.refl _ _⟩
  simp only [Act.put, List.setIfInBounds_toArray, List.set_cons_succ, List.set_cons_zero]
  refine GW.open rfl (fun hd hf => ?_) ?_
  · have f5 : f 5 = false := (by cases h : f 5 with | false => rfl | true => exact absurd (Dn 5 h 3 (by decide)) (by rw [hf]; simp))
    have HC := HI2.out y hU.1
    have hfin := fun (w' : World) (v : Value) (hb : Below y.heap.size y w') hk => hU.call3 hb f5 (v := v) hk
    clear hU Dn hd f5
    go_wp2_with fail
    refine HC.mono ?_
    rintro e u ⟨v', rfl, hk, hb⟩
    have hfin' := hfin u v' hb hk
    clear hfin HC hk hb
    go_wp2
    exact ⟨rfl, hfin'⟩
  simp only [Act.put, List.setIfInBounds_toArray, List.set_cons_succ, List.set_cons_zero]
  refine GW.open rfl (fun hd hf => ?_) ?_
  · have f5 : f 5 = false := (by cases h : f 5 with | false => rfl | true => exact absurd (Dn 5 h 4 (by decide)) (by rw [hf]; simp))
    obtain ⟨a, c, b, d, e, k1, k2⟩ := (hU.2.2.2.1 (hd 1 (by decide))).shapes
    have hz := hU.2.1 hf
    have z0 := hz.cell 0 _ rfl
    have z1 := hz.cell 1 _ rfl
    have f0 := hz.frozen 0
    have f1 := hz.frozen 1
    have hm := fun u => hU.s4 (hd 1 (by decide)) hf f5 (Nat.le_refl _) e u
    rw [e]
    clear hU Dn hd e k1 k2 hz f5
    go_wp2_with fail
    exact ⟨rfl, hm _⟩
  simp only [Act.put, List.setIfInBounds_toArray, List.set_cons_succ, List.set_cons_zero]
  refine GW.open rfl (fun hd hf => ?_) ?_
  · obtain ⟨a, c, b, d, e, k1, k2⟩ := (hU.2.2.2.2.1 (hd 3 (by decide))).shapes
    have hz := hU.2.2.1 hf
    have z0 := hz.cell 0 _ rfl
    have z1 := hz.cell 1 _ rfl
    have f0 := hz.frozen 0
    have f1 := hz.frozen 1
    have hm := fun u => hU.s5 (hd 3 (by decide)) (hd 1 (by decide)) (hd 4 (by decide)) hf (Nat.le_refl _) e u
    rw [e]
    clear hU Dn hd e k1 k2 hz
    go_wp2_with fail
    exact ⟨rfl, hm _⟩
  simp only [Act.put, List.setIfInBounds_toArray, List.set_cons_succ, List.set_cons_zero]
  refine GW.nil fun hall => ?_
  obtain ⟨b1, d1, b2, d2, e1, k1, k2⟩ := (hU.2.2.2.1 (hall 1 (by decide))).shapes
  obtain ⟨b3, d3, b4, d4, e2, k3, k4⟩ := (hU.2.2.2.2.1 (hall 3 (by decide))).shapes
  obtain ⟨p1, p2, j1, B1⟩ := hU.2.2.2.2.2.1 (hall 4 (by decide))
  obtain ⟨p3, p4, j2, B2⟩ := hU.2.2.2.2.2.2 (hall 5 (by decide))
  rw [e1] at j1
  rw [e2] at j2
  simp only [Value.agg.injEq, Array.mk.injEq, List.cons.injEq, and_true] at j1 j2
  obtain ⟨rfl, rfl⟩ := j1
  obtain ⟨rfl, rfl⟩ := j2
  have QF := Lib.hid hU.1
  have M1 := Lib.hid (kmeet_any y _ _ S S2 k2 k4 HUU.out.2.1 HUU.out.2.2.2)
  have M2 := Lib.hid (fun (X : World) (hX : Below y.heap.size y X) => kmeet_any X _ _ S R2 (k2.later hX) (k3.later hX) HUU.out.2.1 HUU.out.2.2.1)
  have M3 := Lib.hid (fun (X : World) (hX : Below y.heap.size y X) => kmeet_any X _ _ R S2 (k1.later hX) (k4.later hX) HUU.out.1 HUU.out.2.2.2)
  have HB1 := Lib.hid B1
  have HB2 := Lib.hid B2
  have t1 := B1.cell 1 _ rfl
  have t3 := B2.cell 1 _ rfl
  rw [e1, e2]
  clear hU Dn hall k1 k2 k3 k4 e1 e2 B1 B2
  generalize R.length = m1 at *
  generalize S.length = m2 at *
  generalize R2.length = m3 at *
  generalize S2.length = m4 at *
  generalize meetB S S2 = p at *
  generalize meetB S R2 = q at *
  generalize meetB R S2 = o at *
  cases p
  · go_wp2_with fail
    refine M1.out.mono ?_
    rintro _ w1 ⟨rfl, hb1⟩
    have u1 := (HB1.out.later hb1).cell 1 _ rfl
    have u2 := (HB2.out.later hb1).cell 0 _ rfl
    cases q
    · go_wp2_with fail
      refine (M2.out w1 hb1).mono ?_
      rintro _ w2 ⟨rfl, hb2⟩
      have hb12 := hb1.trans (hb2.mono hb1.size)
      have u3 := (HB1.out.later hb12).cell 0 _ rfl
      have u4 := (HB2.out.later hb12).cell 1 _ rfl
      clear u1 u2
      go_wp2_with fail
      refine (M3.out w2 hb12).mono ?_
      rintro _ w3 ⟨rfl, hb3⟩
      have HF := Lib.hid (QF.out.trans ((hb12.trans (hb3.mono hb12.size)).mono QF.out.size))
      go_wp2_with fail
      go_ret
      exact ⟨by rw [← HCV.out]; rfl, HF.out⟩
    · go_wp2_with fail
      refine (M2.out w1 hb1).mono ?_
      rintro _ w2 ⟨rfl, hb2⟩
      have HF := Lib.hid (QF.out.trans ((hb1.trans (hb2.mono hb1.size)).mono QF.out.size))
      go_wp2_with fail
      go_ret
      exact ⟨by rw [← HCV.out]; rfl, HF.out⟩
  · go_wp2_with fail
    refine M1.out.mono ?_
    rintro _ w1 ⟨rfl, hb1⟩
    have HF := Lib.hid (QF.out.trans (hb1.mono QF.out.size))
    go_wp2_with fail
    go_ret
    exact ⟨by rw [← HCV.out]; rfl, HF.out⟩
end Go.Proofs.Ytbkgipggblphlaa
