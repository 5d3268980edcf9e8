/- Part. -/
import Derived.Test.YtahjgllnfbejmaaG06
import Derived.Maps.AppendAt
import Derived.Test.YtahjgllnfbejmaaG03
import Derived.Great.BuildSlice
set_option maxRecDepth 100000
set_option maxHeartbeats 16000000
namespace Go.Proofs.Ytahjgllnfbejmaa
section
open Go Go.RowKit
attribute [local go_sem] Oper.semAt_some Grows wide_fn
theorem meetB_set (a b : List Ky) : meetB (setL a) (setL b) = meetB a b := by
 rw [Bool.eq_iff_iff]
 unfold meetB
 simp only [List.any_eq_true, decide_eq_true_eq]
 constructor
 ·rintro ⟨x, h1, y, h2, rfl⟩
  exact ⟨x, (setL_mem _ _).1 h1, x, (setL_mem _ _).1 h2, rfl⟩
 ·rintro ⟨x, h1, y, h2, rfl⟩
  exact ⟨x, (setL_mem _ _).2 h1, x, (setL_mem _ _).2 h2, rfl⟩
def clashM (r s r2 s2 : List Ky) : Bool := meetB s s2 || meetB s r2 || meetB r s2
theorem SetsAt.shapes {W : World} {v : Value} {r s : List Ky} (h : SetsAt W v r s) : ∃ a c b d, v = .agg #[.slice a r.length c, .slice b s.length d] ∧ KeysAt W (.slice a r.length c) r ∧ KeysAt W (.slice b s.length d) s := by
 obtain ⟨x, y, e, h1, h2⟩ := h.ex
 obtain ⟨a, c, rfl, _⟩ := h1.shape
 obtain ⟨b, d, rfl, _⟩ := h2.shape
 exact ⟨a, c, b, d, e, h1, h2⟩
theorem SetsAt.onPut2 {w : World} {v : Value} {r s : List Ky} (hs : SetsAt w v r s) {B : Nat} {t : TypeId} {a b a' : Option Addr} {n c m d n' c' : Nat} (h : Has w B t #[.slice a n c, .slice b m d]) (y : Value) : SetsAt (put2 w B (.slice a' n' c') y) v r s := by
 obtain ⟨x, z, e, h1, h2⟩ := hs.ex
 exact ⟨x, z, e, h1.onPut2 h y, h2.onPut2 h y⟩
section
variable {W : World} {B : Nat} {a1 a2 a3 a4 : Option Addr} {n1 n2 n3 n4 c1 c2 c3 c4 : Nat} {r s r2 s2 : List Ky}
def UCA (W : World) (B : Nat) (x1 y1 x2 y2 : Value) (r s r2 s2 : List Ky) (f : Nat → Bool) (g : Nat → Value) (w : World) : Prop :=
 Below W.heap.size W w ∧ (f 4 = false → Has w B 24 #[x1, y1]) ∧ (f 5 = false → Has w (B + 1) 24 #[x2, y2]) ∧ (f 1 = true → SetsAt w (g 1) r s) ∧ (f 3 = true → SetsAt w (g 3) r2 s2) ∧
 (f 4 = true → ∃ x y, g 1 = .agg #[x, y] ∧ Has w B 24 #[x, y]) ∧ (f 5 = true → ∃ x y, g 3 = .agg #[x, y] ∧ Has w (B + 1) 24 #[x, y])
variable {x1 y1 x2 y2 : Value} {f : Nat → Bool} {g : Nat → Value} {w w' : World}
theorem UCA.later (h : UCA W B x1 y1 x2 y2 r s r2 s2 f g w) (hb : Below w.heap.size w w') : UCA W B x1 y1 x2 y2 r s r2 s2 f g w' :=
 ⟨h.1.trans (hb.mono h.1.size), fun k => (h.2.1 k).later hb, fun k => (h.2.2.1 k).later hb, fun k => (h.2.2.2.1 k).later hb, fun k => (h.2.2.2.2.1 k).later hb, fun k => let ⟨x, y, e, j⟩ := h.2.2.2.2.2.1 k; ⟨x, y, e, j.later hb⟩, fun k => let ⟨x, y, e, j⟩ := h.2.2.2.2.2.2 k; ⟨x, y, e, j.later hb⟩⟩
theorem UCA.same {f' : Nat → Bool} {g' : Nat → Value} (h : UCA W B x1 y1 x2 y2 r s r2 s2 f g w) (hh : ∀ j, j = 1 ∨ j = 3 ∨ j = 4 ∨ j = 5 → f j = f' j ∧ g j = g' j) : UCA W B x1 y1 x2 y2 r s r2 s2 f' g' w := by
 unfold UCA at h ⊢
 rwa [(hh 1 (by omega)).1, (hh 1 (by omega)).2, (hh 3 (by omega)).1, (hh 3 (by omega)).2, (hh 4 (by omega)).1, (hh 5 (by omega)).1] at h
theorem UCA.call1 (h : UCA W B x1 y1 x2 y2 r s r2 s2 f g w) (hb : Below w.heap.size w w') (f4 : f 4 = false) {v : Value} (hk : SetsAt w' v r s) : UCA W B x1 y1 x2 y2 r s r2 s2 (upd f 1 true) (upd g 1 v) w' := by
 obtain ⟨h1, h2, h3, h4, h5, h6, h7⟩ := h.later hb
 exact ⟨h1, by simpa [upd] using h2, by simpa [upd] using h3, fun _ => by simpa [upd] using hk, by simpa [upd] using h5, by simp [upd, f4], by simpa [upd] using h7⟩
theorem UCA.call3 (h : UCA W B x1 y1 x2 y2 r s r2 s2 f g w) (hb : Below w.heap.size w w') (f5 : f 5 = false) {v : Value} (hk : SetsAt w' v r2 s2) : UCA W B x1 y1 x2 y2 r s r2 s2 (upd f 3 true) (upd g 3 v) w' := by
 obtain ⟨h1, h2, h3, h4, h5, h6, h7⟩ := h.later hb
 exact ⟨h1, by simpa [upd] using h2, by simpa [upd] using h3, by simpa [upd] using h4, fun _ => by simpa [upd] using hk, by simpa [upd] using h6, by simp [upd, f5]⟩
theorem UCA.s4 (h : UCA W B (.slice a1 n1 c1) (.slice a2 n2 c2) x2 y2 r s r2 s2 f g w) (f1 : f 1 = true) (f4 : f 4 = false) (f5 : f 5 = false) (hB : W.heap.size ≤ B) {a b : Option Addr} {n c m d : Nat} (e : g 1 = .agg #[.slice a n c, .slice b m d]) (u : Value) :
  UCA W B (.slice a1 n1 c1) (.slice a2 n2 c2) x2 y2 r s r2 s2 (upd f 4 true) (upd g 4 u) (put2 w B (.slice a n c) (.slice b m d)) := by
 obtain ⟨h1, h2, h3, h4, h5, h6, h7⟩ := h
 have hz := h2 f4
 exact ⟨below_put2 h1 hB _ _, by simp [upd], fun k => (h3 (by simpa [upd] using k)).onPut2_other (by omega) _ _, fun k => by simpa [upd] using (h4 f1).onPut2 hz _, fun k => by simpa [upd] using (h5 (by simpa [upd] using k)).onPut2 hz _,
  fun _ => ⟨_, _, by simpa [upd] using e, hz.onPut2 _ _⟩, fun k => by simp [upd, f5] at k⟩
theorem UCA.s5 (h : UCA W B x1 y1 (.slice a3 n3 c3) (.slice a4 n4 c4) r s r2 s2 f g w) (f3 : f 3 = true) (f1 : f 1 = true) (f4 : f 4 = true) (f5 : f 5 = false) (hB : W.heap.size ≤ B) {a b : Option Addr} {n c m d : Nat} (e : g 3 = .agg #[.slice a n c, .slice b m d]) (u : Value) :
  UCA W B x1 y1 (.slice a3 n3 c3) (.slice a4 n4 c4) r s r2 s2 (upd f 5 true) (upd g 5 u) (put2 w (B + 1) (.slice a n c) (.slice b m d)) := by
 obtain ⟨h1, h2, h3, h4, h5, h6, h7⟩ := h
 have hz := h3 f5
 refine ⟨below_put2 h1 (by omega) _ _, fun k => by simp [upd, f4] at k, by simp [upd], fun k => by simpa [upd] using (h4 f1).onPut2 hz _, fun k => by simpa [upd] using (h5 f3).onPut2 hz _, fun _ => ?_, fun _ => ⟨_, _, by simpa [upd] using e, hz.onPut2 _ _⟩⟩
 obtain ⟨x, y, e1, k1⟩ := h6 f4
 exact ⟨x, y, by simpa [upd] using e1, k1.onPut2_other (by omega) _ _⟩
end
theorem kclash_any (W : World) (v1 v2 : Value) (r s r2 s2 : List Ky) (hs1 : SetsAt W v1 r s) (hs2 : SetsAt W v2 r2 s2) (l1 : r.length ≤ 100000) (l2 : s.length ≤ 100000) (l3 : r2.length ≤ 100000) (l4 : s2.length ≤ 100000) :
  Calls Try.prog 20 #[v1, v2] W fun e w' => e = .returned (.bool (clashM r s r2 s2)) ∧ Below W.heap.size W w' := by
 have hmx : Try.prog.follows .mixedOrders = true := by kernel_rfl
 have HI1 := hid (fun (X : World) (hX : Below W.heap.size W X) => inorder_any X v1 r s (hs1.later hX) l1 l2)
 have HI2 := hid (fun (X : World) (hX : Below W.heap.size W X) => inorder_any X v2 r2 s2 (hs2.later hX) l3 l4)
 obtain ⟨a1, c1, a2, c2, rfl, _, _⟩ := hs1.shapes
 obtain ⟨a3, c3, a4, c4, rfl, _, _⟩ := hs2.shapes
 obtain ⟨cv, hcv⟩ : ∃ cv, clashM r s r2 s2 = cv := ⟨_, rfl⟩
 have HCV := hid (show (meetB (setL s) (setL s2) || meetB (setL s) (setL r2) || meetB (setL r) (setL s2)) = cv by rw [meetB_set, meetB_set, meetB_set]; exact hcv)
 rw [hcv]
 clear hcv hs1 hs2 l1 l2 l3 l4
 generalize r.length = n1 at *
 generalize s.length = n2 at *
 generalize r2.length = n3 at *
 generalize s2.length = n4 at *
 have hU1 := setL_up r
 have hU2 := setL_up s
 have hU3 := setL_up r2
 have hU4 := setL_up s2
 generalize setL r = R at *
 generalize setL s = S at *
 generalize setL r2 = R2 at *
 generalize setL s2 = S2 at *
 have HUU := hid (And.intro hU1 (And.intro hU2 (And.intro hU3 hU4)))
 clear hU1 hU2 hU3 hU4
 have h0 := (Has.new W 24 #[.slice a1 n1 c1, .slice a2 n2 c2]).alloc (.cells #[.slice a3 n3 c3, .slice a4 n4 c4] 24)
 have h1 := Has.new (W.alloc (.cells #[.slice a1 n1 c1, .slice a2 n2 c2] 24)) 24 #[.slice a3 n3 c3, .slice a4 n4 c4]
 simp only [World.size_alloc] at h1
 have q0 := (newA W (.cells #[.slice a1 n1 c1, .slice a2 n2 c2] 24)).alloc (by simp) (.cells #[.slice a3 n3 c3, .slice a4 n4 c4] 24)
 obtain ⟨V, hV⟩ : ∃ V, (W.alloc (.cells #[.slice a1 n1 c1, .slice a2 n2 c2] 24)).alloc (.cells #[.slice a3 n3 c3, .slice a4 n4 c4] 24) = V := ⟨_, rfl⟩
 rw [hV] at h0 h1 q0
 have H0 := hid h0
 have H1 := hid h1
 have Q0 := hid q0
 clear h0 h1 q0
 go_enter Try.func20, Try.ntmps20
 go_wp2_with fail
 refine wp_region_ghost [some (.agg #[.slice a1 n1 c1, .slice a2 n2 c2]), none, some (.agg #[.slice a3 n3 c3, .slice a4 n4 c4]), none, none, none] [[], [0], [], [0, 1, 2], [0, 1, 2, 3], [0, 1, 2, 3, 4]] (UCA W W.heap.size (.slice a1 n1 c1) (.slice a2 n2 c2) (.slice a3 n3 c3) (.slice a4 n4 c4) R S R2 S2) hmx (by kernel_rfl) (by kernel_rfl) (fun f g wa wb h hb => h.later hb) (fun f f' g g' wa h => fun hh => hh.same (fun j hj => h j (by rcases hj with rfl | rfl | rfl | rfl <;> rfl))) ?_ ?_
 ·exact UCA.later (show UCA W W.heap.size (.slice a1 n1 c1) (.slice a2 n2 c2) (.slice a3 n3 c3) (.slice a4 n4 c4) R S R2 S2 (fun _ => false) (fun _ => undef) V from ⟨Q0.out, fun _ => H0.out, fun _ => H1.out, fun h => absurd h (by simp), fun h => absurd h (by simp), fun h => absurd h (by simp), fun h => absurd h (by simp)⟩) (Below.refl _ _).drew
 rintro f g y hU Dn
 refine GW.known _ rfl (fun hd hf => ?_) ?_
 ·have f4 : f 4 = false := (by cases h : f 4 with | false => rfl | true => exact absurd (Dn 4 h 0 (by decide)) (by rw [hf]; simp))
  have z := hU.2.1 f4
  have z0 := z.cell 0 _ rfl
  have z1 := z.cell 1 _ rfl
  clear hU Dn hd z f4
  go_wp2_with fail
  exact ⟨rfl, rfl, Below.refl _ _⟩
 simp only [Act.put, sT, sS, sZ]
 refine GW.open rfl (fun hd hf => ?_) ?_
 ·have f4 : f 4 = false := (by cases h : f 4 with | false => rfl | true => exact absurd (Dn 4 h 1 (by decide)) (by rw [hf]; simp))
  have HC := HI1.out y hU.1
  have hfin := fun (w' : World) (v : Value) (hb : Below y.heap.size y w') hk => hU.call1 hb f4 (v := v) hk
  clear hU Dn hd f4
  go_wp2_with fail
  refine HC.mono ?_
  rintro e u ⟨v', rfl, hk, hb⟩
  have hfin' := hfin u v' hb hk
  clear hfin HC hk hb
  go_wp2
  exact ⟨rfl, hfin'⟩
 simp only [Act.put, sT, sS, sZ]
 refine GW.known _ rfl (fun hd hf => ?_) ?_
 ·have f5 : f 5 = false := (by cases h : f 5 with | false => rfl | true => exact absurd (Dn 5 h 2 (by decide)) (by rw [hf]; simp))
  have z := hU.2.2.1 f5
  have z0 := z.cell 0 _ rfl
  have z1 := z.cell 1 _ rfl
  clear hU Dn hd z f5
  go_wp2_with fail
  exact ⟨rfl, rfl, Below.refl _ _⟩
 simp only [Act.put, sT, sS, sZ]
 refine GW.open rfl (fun hd hf => ?_) ?_
 ·have f5 : f 5 = false := (by cases h : f 5 with | false => rfl | true => exact absurd (Dn 5 h 3 (by decide)) (by rw [hf]; simp))
  have HC := HI2.out y hU.1
  have hfin := fun (w' : World) (v : Value) (hb : Below y.heap.size y w') hk => hU.call3 hb f5 (v := v) hk
  clear hU Dn hd f5
  go_wp2_with fail
  refine HC.mono ?_
  rintro e u ⟨v', rfl, hk, hb⟩
  have hfin' := hfin u v' hb hk
  clear hfin HC hk hb
  go_wp2
  exact ⟨rfl, hfin'⟩
 simp only [Act.put, sT, sS, sZ]
 refine GW.open rfl (fun hd hf => ?_) ?_
 ·have f5 : f 5 = false := (by cases h : f 5 with | false => rfl | true => exact absurd (Dn 5 h 4 (by decide)) (by rw [hf]; simp))
  obtain ⟨a, c, b, d, e, k1, k2⟩ := (hU.2.2.2.1 (hd 1 (by decide))).shapes
  have hz := hU.2.1 hf
  have z0 := hz.cell 0 _ rfl
  have z1 := hz.cell 1 _ rfl
  have f0 := hz.frozen 0
  have f1 := hz.frozen 1
  have hm := fun u => hU.s4 (hd 1 (by decide)) hf f5 (Nat.le_refl _) e u
  rw [e]
  clear hU Dn hd e k1 k2 hz f5
  go_wp2_with fail
  exact ⟨rfl, hm _⟩
 simp only [Act.put]
 refine GW.open rfl (fun hd hf => ?_) ?_
 ·obtain ⟨a, c, b, d, e, k1, k2⟩ := (hU.2.2.2.2.1 (hd 3 (by decide))).shapes
  have hz := hU.2.2.1 hf
  have z0 := hz.cell 0 _ rfl
  have z1 := hz.cell 1 _ rfl
  have f0 := hz.frozen 0
  have f1 := hz.frozen 1
  have hm := fun u => hU.s5 (hd 3 (by decide)) (hd 1 (by decide)) (hd 4 (by decide)) hf (Nat.le_refl _) e u
  rw [e]
  clear hU Dn hd e k1 k2 hz
  go_wp2_with fail
  exact ⟨rfl, hm _⟩
 simp only [Act.put]
 refine GW.nil fun hall => ?_
 obtain ⟨b1, d1, b2, d2, e1, k1, k2⟩ := (hU.2.2.2.1 (hall 1 (by decide))).shapes
 obtain ⟨b3, d3, b4, d4, e2, k3, k4⟩ := (hU.2.2.2.2.1 (hall 3 (by decide))).shapes
 obtain ⟨p1, p2, j1, B1⟩ := hU.2.2.2.2.2.1 (hall 4 (by decide))
 obtain ⟨p3, p4, j2, B2⟩ := hU.2.2.2.2.2.2 (hall 5 (by decide))
 rw [e1] at j1
 rw [e2] at j2
 simp only [Value.agg.injEq, Array.mk.injEq, List.cons.injEq, and_true] at j1 j2
 obtain ⟨rfl, rfl⟩ := j1
 obtain ⟨rfl, rfl⟩ := j2
 have QF := hid hU.1
 have M1 := hid (kmeet_any y _ _ S S2 k2 k4 HUU.out.2.1 HUU.out.2.2.2)
 have M2 := hid (fun (X : World) (hX : Below y.heap.size y X) => kmeet_any X _ _ S R2 (k2.later hX) (k3.later hX) HUU.out.2.1 HUU.out.2.2.1)
 have M3 := hid (fun (X : World) (hX : Below y.heap.size y X) => kmeet_any X _ _ R S2 (k1.later hX) (k4.later hX) HUU.out.1 HUU.out.2.2.2)
 have HB1 := hid B1
 have HB2 := hid B2
 have t1 := B1.cell 1 _ rfl
 have t3 := B2.cell 1 _ rfl
 rw [e1, e2]
 clear hU Dn hall k1 k2 k3 k4 e1 e2 B1 B2
 generalize R.length = m1 at *
 generalize S.length = m2 at *
 generalize R2.length = m3 at *
 generalize S2.length = m4 at *
 generalize meetB S S2 = p at *
 generalize meetB S R2 = q at *
 generalize meetB R S2 = o at *
 cases p
 ·go_wp2_with fail
  refine M1.out.mono ?_
  rintro _ w1 ⟨rfl, hb1⟩
  have u1 := (HB1.out.later hb1).cell 1 _ rfl
  have u2 := (HB2.out.later hb1).cell 0 _ rfl
  cases q
  ·go_wp2_with fail
   refine (M2.out w1 hb1).mono ?_
   rintro _ w2 ⟨rfl, hb2⟩
   have hb12 := hb1.trans (hb2.mono hb1.size)
   have u3 := (HB1.out.later hb12).cell 0 _ rfl
   have u4 := (HB2.out.later hb12).cell 1 _ rfl
   clear u1 u2
   go_wp2_with fail
   refine (M3.out w2 hb12).mono ?_
   rintro _ w3 ⟨rfl, hb3⟩
   have HF := hid (QF.out.trans ((hb12.trans (hb3.mono hb12.size)).mono QF.out.size))
   go_wp2_with fail
   go_ret
   exact ⟨by rw [← HCV.out]; rfl, HF.out⟩
  ·go_wp2_with fail
   refine (M2.out w1 hb1).mono ?_
   rintro _ w2 ⟨rfl, hb2⟩
   have HF := hid (QF.out.trans ((hb1.trans (hb2.mono hb1.size)).mono QF.out.size))
   go_wp2_with fail
   go_ret
   exact ⟨by rw [← HCV.out]; rfl, HF.out⟩
 ·go_wp2_with fail
  refine M1.out.mono ?_
  rintro _ w1 ⟨rfl, hb1⟩
  have HF := hid (QF.out.trans (hb1.mono QF.out.size))
  go_wp2_with fail
  go_ret
  exact ⟨by rw [← HCV.out]; rfl, HF.out⟩
theorem concat2 (W : World) (C : Nat) (x y : Value) (r r2 : List Ky) (hC : Has W C 22 #[x, y]) (h1 : KeysAt W x r) (h2 : KeysAt W y r2) (hl : r.length + r2.length ≤ 100000) :
  Calls Try.prog 37 #[.slice (some ⟨C, 0, none⟩) 2 2] W fun e w' => ∃ v', e = .returned v' ∧ KeysAt w' v' (r ++ r2) ∧ Below W.heap.size W w' := by
 have h := kconcat_any W C [(x, r), (y, r2)] (fun i q hq => by
  match i, hq with
  | 0, hq => injection hq with hq; subst hq; exact ⟨hC.cell 0 _ rfl, h1⟩
  | 1, hq => injection hq with hq; subst hq; exact ⟨hC.cell 1 _ rfl, h2⟩
  | i + 2, hq => simp at hq) (by simp) (by simp [sumK]; exact hl)
 refine h.mono ?_
 rintro e w' ⟨v', he, hr, hb⟩
 refine ⟨v', he, ?_, hb⟩
 have := hr.keys (fun z hz => by
  simp [catK] at hz
  rcases hz with hz | hz
  ·exact h1.all z hz
  ·exact h2.all z hz)
 simpa [catK] using this
noncomputable def joinM (r s r2 s2 : List Ky) : List Ky × List Ky × Nat := if (fitB r && fitB s) && (fitB r2 && fitB s2) then makeM (r ++ r2) (s ++ s2) else ([], [], 1)
section
def UJ (W : World) (B : Nat) (x1 y1 x2 y2 : Value) (r s m1 m2 : List Ky) (cv : Value) (f : Nat → Bool) (g : Nat → Value) (w : World) : Prop :=
 Below W.heap.size W w ∧ Has w B 24 #[x1, y1] ∧ Has w (B + 1) 24 #[x2, y2] ∧
 (f 4 = true → ∃ C, g 4 = .slice (some ⟨C, 0, none⟩) 2 2 ∧ Has w C 22 #[x1, x2]) ∧
 (f 5 = true → KeysAt w (g 5) r) ∧
 (f 10 = true → ∃ C, g 10 = .slice (some ⟨C, 0, none⟩) 2 2 ∧ Has w C 22 #[y1, y2]) ∧
 (f 11 = true → KeysAt w (g 11) s) ∧
 (f 12 = true → ∃ x y, g 12 = .tuple #[.agg #[x, y], cv] ∧ KeysAt w x m1 ∧ KeysAt w y m2) ∧
 (f 13 = true → ∃ x y, g 12 = .tuple #[.agg #[x, y], cv] ∧ g 13 = .agg #[x, y]) ∧
 (f 15 = false → Has w (B + 1 + 1) 24 #[.slice none 0 0, .slice none 0 0]) ∧
 (f 15 = true → ∃ x y, g 12 = .tuple #[.agg #[x, y], cv] ∧ Has w (B + 1 + 1) 24 #[x, y])
variable {W : World} {B : Nat} {x1 y1 x2 y2 cv : Value} {r s m1 m2 : List Ky} {f : Nat → Bool} {g : Nat → Value} {w w' : World}
theorem UJ.later (h : UJ W B x1 y1 x2 y2 r s m1 m2 cv f g w) (hb : Below w.heap.size w w') : UJ W B x1 y1 x2 y2 r s m1 m2 cv f g w' := by
 obtain ⟨h1, h2, h3, h4, h5, h6, h7, h8, h9, h10, h11⟩ := h
 exact ⟨h1.trans (hb.mono h1.size), h2.later hb, h3.later hb, fun k => let ⟨C, e, j⟩ := h4 k; ⟨C, e, j.later hb⟩, fun k => (h5 k).later hb, fun k => let ⟨C, e, j⟩ := h6 k; ⟨C, e, j.later hb⟩, fun k => (h7 k).later hb,
  fun k => let ⟨x, y, e, j, i⟩ := h8 k; ⟨x, y, e, j.later hb, i.later hb⟩, h9, fun k => (h10 k).later hb, fun k => let ⟨x, y, e, j⟩ := h11 k; ⟨x, y, e, j.later hb⟩⟩
theorem UJ.same {f' : Nat → Bool} {g' : Nat → Value} (h : UJ W B x1 y1 x2 y2 r s m1 m2 cv f g w) (hh : ∀ j, j = 4 ∨ j = 5 ∨ j = 10 ∨ j = 11 ∨ j = 12 ∨ j = 13 ∨ j = 15 → f j = f' j ∧ g j = g' j) : UJ W B x1 y1 x2 y2 r s m1 m2 cv f' g' w := by
 unfold UJ at h ⊢
 rwa [(hh 4 (by omega)).1, (hh 4 (by omega)).2, (hh 5 (by omega)).1, (hh 5 (by omega)).2, (hh 10 (by omega)).1, (hh 10 (by omega)).2, (hh 11 (by omega)).1, (hh 11 (by omega)).2, (hh 12 (by omega)).1, (hh 12 (by omega)).2, (hh 13 (by omega)).1, (hh 13 (by omega)).2, (hh 15 (by omega)).1] at h
theorem UJ.n4 (h : UJ W B x1 y1 x2 y2 r s m1 m2 cv f g w) (hb : Below w.heap.size w w') {C : Nat} (hC : Has w' C 22 #[x1, x2]) : UJ W B x1 y1 x2 y2 r s m1 m2 cv (upd f 4 true) (upd g 4 (.slice (some ⟨C, 0, none⟩) 2 2)) w' := by
 obtain ⟨h1, h2, h3, h4, h5, h6, h7, h8, h9, h10, h11⟩ := h.later hb
 exact ⟨h1, h2, h3, fun _ => ⟨C, by simp [upd], hC⟩, by simpa [upd] using h5, by simpa [upd] using h6, by simpa [upd] using h7, by simpa [upd] using h8, by simpa [upd] using h9, by simpa [upd] using h10, by simpa [upd] using h11⟩
theorem UJ.n5 (h : UJ W B x1 y1 x2 y2 r s m1 m2 cv f g w) (hb : Below w.heap.size w w') {v : Value} (hk : KeysAt w' v r) : UJ W B x1 y1 x2 y2 r s m1 m2 cv (upd f 5 true) (upd g 5 v) w' := by
 obtain ⟨h1, h2, h3, h4, h5, h6, h7, h8, h9, h10, h11⟩ := h.later hb
 exact ⟨h1, h2, h3, by simpa [upd] using h4, fun _ => by simpa [upd] using hk, by simpa [upd] using h6, by simpa [upd] using h7, by simpa [upd] using h8, by simpa [upd] using h9, by simpa [upd] using h10, by simpa [upd] using h11⟩
theorem UJ.n10 (h : UJ W B x1 y1 x2 y2 r s m1 m2 cv f g w) (hb : Below w.heap.size w w') {C : Nat} (hC : Has w' C 22 #[y1, y2]) : UJ W B x1 y1 x2 y2 r s m1 m2 cv (upd f 10 true) (upd g 10 (.slice (some ⟨C, 0, none⟩) 2 2)) w' := by
 obtain ⟨h1, h2, h3, h4, h5, h6, h7, h8, h9, h10, h11⟩ := h.later hb
 exact ⟨h1, h2, h3, by simpa [upd] using h4, by simpa [upd] using h5, fun _ => ⟨C, by simp [upd], hC⟩, by simpa [upd] using h7, by simpa [upd] using h8, by simpa [upd] using h9, by simpa [upd] using h10, by simpa [upd] using h11⟩
theorem UJ.n11 (h : UJ W B x1 y1 x2 y2 r s m1 m2 cv f g w) (hb : Below w.heap.size w w') {v : Value} (hk : KeysAt w' v s) : UJ W B x1 y1 x2 y2 r s m1 m2 cv (upd f 11 true) (upd g 11 v) w' := by
 obtain ⟨h1, h2, h3, h4, h5, h6, h7, h8, h9, h10, h11⟩ := h.later hb
 exact ⟨h1, h2, h3, by simpa [upd] using h4, by simpa [upd] using h5, by simpa [upd] using h6, fun _ => by simpa [upd] using hk, by simpa [upd] using h8, by simpa [upd] using h9, by simpa [upd] using h10, by simpa [upd] using h11⟩
theorem UJ.n12 (h : UJ W B x1 y1 x2 y2 r s m1 m2 cv f g w) (hb : Below w.heap.size w w') (f13 : f 13 = false) (f15 : f 15 = false) {x y : Value} (hk : KeysAt w' x m1) (hk2 : KeysAt w' y m2) : UJ W B x1 y1 x2 y2 r s m1 m2 cv (upd f 12 true) (upd g 12 (.tuple #[.agg #[x, y], cv])) w' := by
 obtain ⟨h1, h2, h3, h4, h5, h6, h7, h8, h9, h10, h11⟩ := h.later hb
 exact ⟨h1, h2, h3, by simpa [upd] using h4, by simpa [upd] using h5, by simpa [upd] using h6, by simpa [upd] using h7, fun _ => ⟨x, y, by simp [upd], hk, hk2⟩, fun k => by simp [upd, f13] at k, by simpa [upd] using h10, fun k => by simp [upd, f15] at k⟩
theorem UJ.n13 (h : UJ W B x1 y1 x2 y2 r s m1 m2 cv f g w) {x y : Value} (e : g 12 = .tuple #[.agg #[x, y], cv]) : UJ W B x1 y1 x2 y2 r s m1 m2 cv (upd f 13 true) (upd g 13 (.agg #[x, y])) w := by
 obtain ⟨h1, h2, h3, h4, h5, h6, h7, h8, h9, h10, h11⟩ := h
 exact ⟨h1, h2, h3, by simpa [upd] using h4, by simpa [upd] using h5, by simpa [upd] using h6, by simpa [upd] using h7, by simpa [upd] using h8, fun _ => ⟨x, y, by simpa [upd] using e, by simp [upd]⟩, by simpa [upd] using h10, by simpa [upd] using h11⟩
theorem UJ.n15 (h : UJ W B x1 y1 x2 y2 r s m1 m2 cv f g w) (f4 : f 4 = true) (f5 : f 5 = true) (f10 : f 10 = true) (f11 : f 11 = true) (f12 : f 12 = true) (f15 : f 15 = false) (hB : W.heap.size ≤ B) {a b : Option Addr} {n c m d : Nat} (e : g 12 = .tuple #[.agg #[.slice a n c, .slice b m d], cv]) (u : Value) :
  UJ W B x1 y1 x2 y2 r s m1 m2 cv (upd f 15 true) (upd g 15 u) (put2 w (B + 1 + 1) (.slice a n c) (.slice b m d)) := by
 obtain ⟨h1, h2, h3, h4, h5, h6, h7, h8, h9, h10, h11⟩ := h
 have hz := h10 f15
 obtain ⟨C, eC, kC⟩ := h4 f4
 obtain ⟨D, eD, kD⟩ := h6 f10
 obtain ⟨x, y, e1, k1, k2⟩ := h8 f12
 have nC : C ≠ B + 1 + 1 := fun e => by
  subst e
  have := kC.symm.trans hz
  injection this with this
  injection this with _ this _
  exact absurd this (by decide)
 have nD : D ≠ B + 1 + 1 := fun e => by
  subst e
  have := kD.symm.trans hz
  injection this with this
  injection this with _ this _
  exact absurd this (by decide)
 exact ⟨below_put2 h1 (by omega) _ _, h2.onPut2_other (by omega) _ _, h3.onPut2_other (by omega) _ _, fun _ => ⟨C, by simpa [upd] using eC, kC.onPut2_other nC _ _⟩, fun _ => by simpa [upd] using (h5 f5).onPut2 hz _,
  fun _ => ⟨D, by simpa [upd] using eD, kD.onPut2_other nD _ _⟩, fun _ => by simpa [upd] using (h7 f11).onPut2 hz _, fun _ => ⟨x, y, by simpa [upd] using e1, k1.onPut2 hz _, k2.onPut2 hz _⟩, by simpa [upd] using h9, by simp [upd], fun _ => ⟨_, _, by simpa [upd] using e, hz.onPut2 _ _⟩⟩
end
theorem kjoin_any (W : World) (v1 v2 : Value) (r s r2 s2 : List Ky) (hs1 : SetsAt W v1 r s) (hs2 : SetsAt W v2 r2 s2) :
  Calls Try.prog 18 #[v1, v2] W (SetsP W (joinM r s r2 s2).1 (joinM r s r2 s2).2.1 (joinM r s r2 s2).2.2) := by
 have hmx : Try.prog.follows .mixedOrders = true := by kernel_rfl
 have HR1 := hid (fun (X : World) (hX : Below W.heap.size W X) => kright_any X v1 r s (hs1.later hX))
 have HR2 := hid (fun (X : World) (hX : Below W.heap.size W X) => kright_any X v2 r2 s2 (hs2.later hX))
 have hfin := hid (show ∀ (w' : World) (x y : Value) (c : Nat) (a b : List Ky), joinM r s r2 s2 = (a, b, c) → KeysAt w' x a → KeysAt w' y b → Below W.heap.size W w' → SetsP W (joinM r s r2 s2).1 (joinM r s r2 s2).2.1 (joinM r s r2 s2).2.2 (.returned (.tuple #[.agg #[x, y], .int .i64 (c : Int)])) w' from fun w' x y c a b e h1 h2 h3 => by rw [e]; exact ⟨x, y, rfl, h1, h2, h3⟩)
 obtain ⟨Post, hPost⟩ : ∃ Post, SetsP W (joinM r s r2 s2).1 (joinM r s r2 s2).2.1 (joinM r s r2 s2).2.2 = Post := ⟨_, rfl⟩
 rw [hPost] at hfin ⊢
 clear hPost
 obtain ⟨a1, c1, a2, c2, rfl, k1, k2⟩ := hs1.shapes
 obtain ⟨a3, c3, a4, c4, rfl, k3, k4⟩ := hs2.shapes
 obtain ⟨n1, e1⟩ : ∃ n, r.length = n := ⟨_, rfl⟩
 obtain ⟨n2, e2⟩ : ∃ n, s.length = n := ⟨_, rfl⟩
 obtain ⟨n3, e3⟩ : ∃ n, r2.length = n := ⟨_, rfl⟩
 obtain ⟨n4, e4⟩ : ∃ n, s2.length = n := ⟨_, rfl⟩
 rw [e1] at k1 HR1 ⊢
 rw [e2] at k2 HR1 ⊢
 rw [e3] at k3 HR2 ⊢
 rw [e4] at k4 HR2 ⊢
 have HN := hid (And.intro e1 (And.intro e2 (And.intro e3 e4)))
 have HKS := hid (And.intro k1 (And.intro k2 (And.intro k3 k4)))
 clear hs1 hs2 e1 e2 e3 e4 k1 k2 k3 k4
 have h0 := ((Has.new W 24 #[.slice a1 n1 c1, .slice a2 n2 c2]).alloc (.cells #[.slice a3 n3 c3, .slice a4 n4 c4] 24)).alloc (.cells #[.slice none 0 0, .slice none 0 0] 24)
 have h1 := (Has.new (W.alloc (.cells #[.slice a1 n1 c1, .slice a2 n2 c2] 24)) 24 #[.slice a3 n3 c3, .slice a4 n4 c4]).alloc (.cells #[.slice none 0 0, .slice none 0 0] 24)
 have h2 := Has.new ((W.alloc (.cells #[.slice a1 n1 c1, .slice a2 n2 c2] 24)).alloc (.cells #[.slice a3 n3 c3, .slice a4 n4 c4] 24)) 24 #[.slice none 0 0, .slice none 0 0]
 simp only [World.size_alloc] at h1 h2
 have q0 := ((newA W (.cells #[.slice a1 n1 c1, .slice a2 n2 c2] 24)).alloc (by simp) (.cells #[.slice a3 n3 c3, .slice a4 n4 c4] 24)).alloc (by simp; omega) (.cells #[.slice none 0 0, .slice none 0 0] 24)
 obtain ⟨V, hV⟩ : ∃ V, ((W.alloc (.cells #[.slice a1 n1 c1, .slice a2 n2 c2] 24)).alloc (.cells #[.slice a3 n3 c3, .slice a4 n4 c4] 24)).alloc (.cells #[.slice none 0 0, .slice none 0 0] 24) = V := ⟨_, rfl⟩
 rw [hV] at h0 h1 h2 q0
 have H1 := hid h0
 have H2 := hid h1
 have H3 := hid h2
 have Q0 := hid q0
 have HRV := hid (HR1.out V q0)
 have b0 := h0.cell 0 _ rfl
 have b1 := h0.cell 1 _ rfl
 clear h0 h1 h2 q0
 cases hr1 : (fitB r && fitB s)
 ·rw [hr1] at HRV
  have HF1 := hid hr1
  clear hr1
  go_enter Try.func18, Try.ntmps18
  go_wp2_with fail
  refine HRV.out.mono ?_
  rintro _ w1 ⟨rfl, hb1⟩
  have z := H3.out.later hb1
  have z0 := z.cell 0 _ rfl
  have z1 := z.cell 1 _ rfl
  have f0 := z.frozen 0
  have f1 := z.frozen 1
  have QX := hid (Q0.out.trans (hb1.mono Q0.out.size))
  have HF := hid ((z.set 0 (.slice none 0 0)).set 1 (.slice none 0 0))
  have QF := hid ((QX.out.setCell (p := ⟨W.heap.size + 1 + 1, 0, none⟩) (by show W.heap.size ≤ W.heap.size + 1 + 1; omega) (.slice none 0 0)).setCell (p := ⟨W.heap.size + 1 + 1, 1, none⟩) (by show W.heap.size ≤ W.heap.size + 1 + 1; omega) (.slice none 0 0))
  have M := hid (show joinM r s r2 s2 = ([], [], 1) from by unfold joinM; rw [HF1.out, Bool.false_and, if_neg (by decide)])
  clear z
  go_wp2_with fail
  refine bodyPost_ret (results_setsB rfl rfl HF.out) rfl ?_
  exact hfin.out _ _ _ 1 _ _ M.out (KeysAt.nil _) (KeysAt.nil _) QF.out
 ·rw [hr1] at HRV
  have HF1 := hid hr1
  clear hr1
  cases hr2 : (fitB r2 && fitB s2)
  ·rw [hr2] at HR2
   have HF2 := hid hr2
   clear hr2
   go_enter Try.func18, Try.ntmps18
   go_wp2_with fail
   refine HRV.out.mono ?_
   rintro _ w1 ⟨rfl, hb1⟩
   have d0 := (H2.out.later hb1).cell 0 _ rfl
   have d1 := (H2.out.later hb1).cell 1 _ rfl
   go_wp2_with fail
   refine (HR2.out w1 (Q0.out.trans (hb1.mono Q0.out.size))).mono ?_
   rintro _ w2 ⟨rfl, hb2⟩
   have hb12 := hb1.trans (hb2.mono hb1.size)
   clear b0 b1 d0 d1
   have z := H3.out.later hb12
   have z0 := z.cell 0 _ rfl
   have z1 := z.cell 1 _ rfl
   have f0 := z.frozen 0
   have f1 := z.frozen 1
   have QX := hid (Q0.out.trans (hb12.mono Q0.out.size))
   have HF := hid ((z.set 0 (.slice none 0 0)).set 1 (.slice none 0 0))
   have QF := hid ((QX.out.setCell (p := ⟨W.heap.size + 1 + 1, 0, none⟩) (by show W.heap.size ≤ W.heap.size + 1 + 1; omega) (.slice none 0 0)).setCell (p := ⟨W.heap.size + 1 + 1, 1, none⟩) (by show W.heap.size ≤ W.heap.size + 1 + 1; omega) (.slice none 0 0))
   have M := hid (show joinM r s r2 s2 = ([], [], 1) from by unfold joinM; rw [HF1.out, HF2.out, if_neg (by decide)])
   clear z
   go_wp2_with fail
   refine bodyPost_ret (results_setsB rfl rfl HF.out) rfl ?_
   exact hfin.out _ _ _ 1 _ _ M.out (KeysAt.nil _) (KeysAt.nil _) QF.out
  ·rw [hr2] at HR2
   have HF2 := hid hr2
   clear hr2
   have M := hid (show joinM r s r2 s2 = ((makeM (r ++ r2) (s ++ s2)).1, (makeM (r ++ r2) (s ++ s2)).2.1, (makeM (r ++ r2) (s ++ s2)).2.2) from by unfold joinM; rw [HF1.out, HF2.out, if_pos (by decide)])
   have hl1 : r.length ≤ 200 ∧ s.length ≤ 200 := by
    have := HF1.out
    unfold fitB at this
    simp only [Bool.and_eq_true, decide_eq_true_eq] at this
    exact ⟨this.1.1.1, this.2.1.1⟩
   have hl2 : r2.length ≤ 200 ∧ s2.length ≤ 200 := by
    have := HF2.out
    unfold fitB at this
    simp only [Bool.and_eq_true, decide_eq_true_eq] at this
    exact ⟨this.1.1.1, this.2.1.1⟩
   have HC1 := hid (fun (X : World) (hX : Below W.heap.size W X) (C : Nat) (hC : Has X C 22 #[.slice a1 n1 c1, .slice a3 n3 c3]) => concat2 X C _ _ r r2 hC (HKS.out.1.later hX) (HKS.out.2.2.1.later hX) (by omega))
   have HC2 := hid (fun (X : World) (hX : Below W.heap.size W X) (C : Nat) (hC : Has X C 22 #[.slice a2 n2 c2, .slice a4 n4 c4]) => concat2 X C _ _ s s2 hC (HKS.out.2.1.later hX) (HKS.out.2.2.2.later hX) (by omega))
   have HM := hid (fun (X : World) (x y : Value) (hx : KeysAt X x (r ++ r2)) (hy : KeysAt X y (s ++ s2)) => (make_any X x y (r ++ r2) (s ++ s2) hx hy (by rw [List.length_append]; omega) (by rw [List.length_append]; omega)).mono fun e w' h => h.ex)
   clear hl1 hl2
   generalize (makeM (r ++ r2) (s ++ s2)).1 = m1 at *
   generalize (makeM (r ++ r2) (s ++ s2)).2.1 = m2 at *
   generalize (makeM (r ++ r2) (s ++ s2)).2.2 = m3 at *
   go_enter Try.func18, Try.ntmps18
   go_wp2_with fail
   refine HRV.out.mono ?_
   rintro _ w1 ⟨rfl, hb1⟩
   have d0 := (H2.out.later hb1).cell 0 _ rfl
   have d1 := (H2.out.later hb1).cell 1 _ rfl
   go_wp2_with fail
   refine (HR2.out w1 (Q0.out.trans (hb1.mono Q0.out.size))).mono ?_
   rintro _ w2 ⟨rfl, hb2⟩
   have hb12 := hb1.trans (hb2.mono hb1.size)
   have X1 := hid (H1.out.later hb12)
   have X2 := hid (H2.out.later hb12)
   have X3 := hid (H3.out.later hb12)
   have QX := hid (Q0.out.trans (hb12.mono Q0.out.size))
   clear b0 b1 d0 d1 hb1 hb2 hb12 hV
   go_wp2_with fail
   refine wp_region_ghost [some (.pointer (some ⟨W.heap.size, 0, none⟩)), some (.slice a1 n1 c1), some (.pointer (some ⟨W.heap.size + 1, 0, none⟩)), some (.slice a3 n3 c3), none, none, some (.pointer (some ⟨W.heap.size, 1, none⟩)), some (.slice a2 n2 c2), some (.pointer (some ⟨W.heap.size + 1, 1, none⟩)), some (.slice a4 n4 c4), none, none, none, none, some (.int .i64 (m3 : Int)), none, some (.int .i64 (m3 : Int))] [[], [0], [], [2], [0, 1, 2, 3], [0, 1, 2, 3, 4], [], [6], [], [8], [6, 7, 8, 9], [0, 1, 2, 3, 4, 5, 6, 7, 8, 9, 10], [0, 1, 2, 3, 4, 5, 6, 7, 8, 9, 10, 11], [0, 1, 2, 3, 4, 5, 6, 7, 8, 9, 10, 11, 12], [0, 1, 2, 3, 4, 5, 6, 7, 8, 9, 10, 11, 12], [0, 1, 2, 3, 4, 5, 6, 7, 8, 9, 10, 11, 12, 13, 14], [0, 1, 2, 3, 4, 5, 6, 7, 8, 9, 10, 11, 12, 13, 14, 15]] (UJ W W.heap.size (.slice a1 n1 c1) (.slice a2 n2 c2) (.slice a3 n3 c3) (.slice a4 n4 c4) (r ++ r2) (s ++ s2) m1 m2 (.int .i64 (m3 : Int))) hmx (by kernel_rfl) (by kernel_rfl) (fun f g wa wb h hb => h.later hb) (fun f f' g g' wa h => fun hh => hh.same (fun j hj => h j (by rcases hj with rfl | rfl | rfl | rfl | rfl | rfl | rfl <;> rfl))) ?_ ?_
   ·exact UJ.later (show UJ W W.heap.size (.slice a1 n1 c1) (.slice a2 n2 c2) (.slice a3 n3 c3) (.slice a4 n4 c4) (r ++ r2) (s ++ s2) m1 m2 (.int .i64 (m3 : Int)) (fun _ => false) (fun _ => undef) w2 from ⟨QX.out, X1.out, X2.out, fun h => absurd h (by simp), fun h => absurd h (by simp), fun h => absurd h (by simp), fun h => absurd h (by simp), fun h => absurd h (by simp), fun h => absurd h (by simp), fun _ => X3.out, fun h => absurd h (by simp)⟩) (Below.refl _ _).drew
   rintro f g y hU Dn
   refine GW.known _ rfl (fun hd hf => ?_) ?_
   ·clear hU Dn hd
    go_wp2_with fail
    exact ⟨rfl, rfl, Below.refl _ _⟩
   simp only [Act.put, sT, sS, sZ]
   refine GW.known _ rfl (fun hd hf => ?_) ?_
   ·have c := hU.2.1.cell 0 _ rfl
    clear hU Dn hd
    go_wp2_with fail
    exact ⟨rfl, rfl, Below.refl _ _⟩
   simp only [Act.put, sT, sS, sZ]
   refine GW.known _ rfl (fun hd hf => ?_) ?_
   ·clear hU Dn hd
    go_wp2_with fail
    exact ⟨rfl, rfl, Below.refl _ _⟩
   simp only [Act.put, sT, sS, sZ]
   refine GW.known _ rfl (fun hd hf => ?_) ?_
   ·have c := hU.2.2.1.cell 0 _ rfl
    clear hU Dn hd
    go_wp2_with fail
    exact ⟨rfl, rfl, Below.refl _ _⟩
   simp only [Act.put, sT, sS, sZ]
   refine GW.open rfl (fun hd hf => ?_) ?_
   ·have hC := Has.new y 22 #[.slice a1 n1 c1, .slice a3 n3 c3]
    have hm := hU.n4 (newA y (.cells #[.slice a1 n1 c1, .slice a3 n3 c3] 22)) hC
    clear hU Dn hd hC
    go_wp2_with fail
    exact ⟨rfl, hm⟩
   simp only [Act.put, sT, sS, sZ]
   refine GW.open rfl (fun hd hf => ?_) ?_
   ·obtain ⟨C, eC, kC⟩ := hU.2.2.2.1 (hd 4 (by decide))
    have HC := HC1.out y hU.1 C kC
    have hfin := fun (w' : World) (v : Value) (hb : Below y.heap.size y w') hk => hU.n5 hb (v := v) hk
    rw [eC]
    clear hU Dn hd eC kC
    go_wp2_with fail
    refine HC.mono ?_
    rintro e u ⟨v', rfl, hk, hb⟩
    have hfin' := hfin u v' hb hk
    clear hfin HC hk hb
    go_wp2
    exact ⟨rfl, hfin'⟩
   simp only [Act.put, sT, sS, sZ]
   refine GW.known _ rfl (fun hd hf => ?_) ?_
   ·clear hU Dn hd
    go_wp2_with fail
    exact ⟨rfl, rfl, Below.refl _ _⟩
   simp only [Act.put, sT, sS, sZ]
   refine GW.known _ rfl (fun hd hf => ?_) ?_
   ·have c := hU.2.1.cell 1 _ rfl
    clear hU Dn hd
    go_wp2_with fail
    exact ⟨rfl, rfl, Below.refl _ _⟩
   simp only [Act.put, sT, sS, sZ]
   refine GW.known _ rfl (fun hd hf => ?_) ?_
   ·clear hU Dn hd
    go_wp2_with fail
    exact ⟨rfl, rfl, Below.refl _ _⟩
   simp only [Act.put, sT, sS, sZ]
   refine GW.known _ rfl (fun hd hf => ?_) ?_
   ·have c := hU.2.2.1.cell 1 _ rfl
    clear hU Dn hd
    go_wp2_with fail
    exact ⟨rfl, rfl, Below.refl _ _⟩
   simp only [Act.put, sT, sS, sZ]
   refine GW.open rfl (fun hd hf => ?_) ?_
   ·have hC := Has.new y 22 #[.slice a2 n2 c2, .slice a4 n4 c4]
    have hm := hU.n10 (newA y (.cells #[.slice a2 n2 c2, .slice a4 n4 c4] 22)) hC
    clear hU Dn hd hC
    go_wp2_with fail
    exact ⟨rfl, hm⟩
   simp only [Act.put, sT, sS, sZ]
   refine GW.open rfl (fun hd hf => ?_) ?_
   ·obtain ⟨C, eC, kC⟩ := hU.2.2.2.2.2.1 (hd 10 (by decide))
    have HC := HC2.out y hU.1 C kC
    have hfin := fun (w' : World) (v : Value) (hb : Below y.heap.size y w') hk => hU.n11 hb (v := v) hk
    rw [eC]
    clear hU Dn hd eC kC
    go_wp2_with fail
    refine HC.mono ?_
    rintro e u ⟨v', rfl, hk, hb⟩
    have hfin' := hfin u v' hb hk
    clear hfin HC hk hb
    go_wp2
    exact ⟨rfl, hfin'⟩
   simp only [Act.put, sT, sS, sZ]
   refine GW.open rfl (fun hd hf => ?_) ?_
   ·have k5 := hU.2.2.2.2.1 (hd 5 (by decide))
    have k11 := hU.2.2.2.2.2.2.1 (hd 11 (by decide))
    have f13 : f 13 = false := (by cases h : f 13 with | false => rfl | true => exact absurd (Dn 13 h 12 (by decide)) (by rw [hf]; simp))
    have f15 : f 15 = false := (by cases h : f 15 with | false => rfl | true => exact absurd (Dn 15 h 12 (by decide)) (by rw [hf]; simp))
    have HC := HM.out y _ _ k5 k11
    have hfin := fun (w' : World) (x z : Value) (hb : Below y.heap.size y w') hk hk2 => hU.n12 hb f13 f15 (x := x) (y := z) hk hk2
    obtain ⟨p5, q5, e5, _⟩ := k5.shape
    obtain ⟨p11, q11, e11, _⟩ := k11.shape
    clear hU Dn hd k5 k11 f13 f15
    rw [e5, e11] at HC ⊢
    clear e5 e11
    generalize (r ++ r2).length = n5 at *
    generalize (s ++ s2).length = n11 at *
    replace HC := hid HC
    go_wp2_with fail
    refine HC.out.mono ?_
    rintro e u ⟨x, z, rfl, hk, hk2, hb⟩
    have hfin' := hfin u x z hb hk hk2
    clear hfin HC hk hk2 hb
    go_wp2
    exact ⟨rfl, hfin'⟩
   simp only [Act.put, sT, sS, sZ]
   refine GW.open rfl (fun hd hf => ?_) ?_
   ·obtain ⟨x, z, e, _⟩ := hU.2.2.2.2.2.2.2.1 (hd 12 (by decide))
    have hm := hU.n13 e
    rw [e]
    clear hU Dn hd e
    go_wp2_with fail
    exact ⟨rfl, hm⟩
   simp only [Act.put, sT, sS, sZ]
   refine GW.known _ rfl (fun hd hf => ?_) ?_
   ·obtain ⟨x, z, e, _⟩ := hU.2.2.2.2.2.2.2.1 (hd 12 (by decide))
    rw [e]
    clear hU Dn hd e
    go_wp2_with fail
    exact ⟨rfl, rfl, Below.refl _ _⟩
   simp only [Act.put, sT, sS, sZ]
   refine GW.open rfl (fun hd hf => ?_) ?_
   ·obtain ⟨x, z, e, k1, k2⟩ := hU.2.2.2.2.2.2.2.1 (hd 12 (by decide))
    obtain ⟨x', z', e', e13⟩ := hU.2.2.2.2.2.2.2.2.1 (hd 13 (by decide))
    rw [e] at e'
    have exz : x' = x ∧ z' = z := by
     have h := e'.symm
     simp at h
     exact h
    obtain ⟨rfl, rfl⟩ := exz
    obtain ⟨p1, q1, rfl, _⟩ := k1.shape
    obtain ⟨p2, q2, rfl, _⟩ := k2.shape
    have hz := hU.2.2.2.2.2.2.2.2.2.1 hf
    have z0 := hz.cell 0 _ rfl
    have z1 := hz.cell 1 _ rfl
    have f0 := hz.frozen 0
    have f1 := hz.frozen 1
    have hm := fun u => hU.n15 (hd 4 (by decide)) (hd 5 (by decide)) (hd 10 (by decide)) (hd 11 (by decide)) (hd 12 (by decide)) hf (Nat.le_refl _) e u
    rw [e13]
    clear hU Dn hd e e' e13 k1 k2 hz
    go_wp2_with fail
    exact ⟨rfl, hm _⟩
   simp only [Act.put]
   refine GW.known _ rfl (fun hd hf => ?_) ?_
   ·clear hU Dn hd
    go_wp2_with fail
    exact ⟨rfl, rfl, Below.refl _ _⟩
   simp only [Act.put, sT, sS, sZ]
   refine GW.nil fun hall => ?_
   obtain ⟨x, z, ex, kx, kz⟩ := hU.2.2.2.2.2.2.2.1 (hall 12 (by decide))
   obtain ⟨x', z', ex', HB⟩ := hU.2.2.2.2.2.2.2.2.2.2 (hall 15 (by decide))
   rw [ex] at ex'
   have exz : x' = x ∧ z' = z := by
    have h := ex'.symm
    simp at h
    exact h
   obtain ⟨rfl, rfl⟩ := exz
   have HF := hid HB
   have QF := hid hU.1
   have KX := hid kx
   have KZ := hid kz
   clear hU Dn hall ex ex' HB kx kz
   go_wp2_with fail
   refine bodyPost_ret (results_setsB rfl rfl HF.out) rfl ?_
   exact hfin.out _ _ _ m3 _ _ M.out KX.out KZ.out QF.out
end
section
open Go Go.RowKit Go.Shelf
attribute [local go_sem] Oper.semAt_some Grows wide_fn
theorem Arr4.mk0' (W : World) (t : TypeId) : Arr4 (W.alloc (.cells #[.int .u64 0, .int .u64 0, .int .u64 0, .int .u64 0] t)) W.heap.size t (fun _ => 0) := World.alloc_heap_new W _
theorem Arr4.later' {W W' : World} {B : Nat} {t : TypeId} {m : Nat → Int} (h : Arr4 W B t m) (hb : Below W.heap.size W W') : Arr4 W' B t m := h.below hb h.lt
theorem Arr4.same4 {W : World} {B : Nat} {t : TypeId} {m m' : Nat → Int} (h : Arr4 W B t m) (h0 : m 0 = m' 0) (h1 : m 1 = m' 1) (h2 : m 2 = m' 2) (h3 : m 3 = m' 3) : Arr4 W B t m' := by
 unfold Arr4 at *
 rw [h, h0, h1, h2, h3]
theorem wp_region_quietR {P : Program} {C : World → Prop} {id : Nat} {Q : Exit → Act → World → Prop} {a : Act} {w : World} {l : List Oper} (hm : P.follows .mixedOrders = true) (hB : Region.lexB .any l.toArray = true)
  (hC : C { w with drawn := w.drawn + 1 }) (h : wpQuiet P l.toArray C (fun a' => ∀ w', C w' → Q .normal a' w') l a) : (Code.region id l.toArray true).wp P Q a w :=
 wp_region_quiet (C := C) hm hB hC (by simpa using h)

theorem refOf_ret (n : Int) (h : I64 n) : Ret Try.prog 7 #[.int .i64 n] (wv (ofN n)) := by
 intro w
 have hI := h
 unfold I64 at h
 by_cases hn : n < 0
 ·rw [wv_of (of_neg n hI hn)]
  have hw : IntKind.u64.wrap n = 18446744073709551616 + n := by rw [IntKind.wrap_u64]; omega
  have h1 : -9223372036854775808 ≤ n := h.1
  obtain ⟨x, hx⟩ : ∃ x, x = 18446744073709551616 + n := ⟨_, rfl⟩
  rw [← hx] at hw ⊢
  have hx0 : 0 ≤ x := by omega
  have hx1 : x < 18446744073709551616 := by omega
  clear h hI hx
  go_enter Try.func7, Try.ntmps7
  go_wp2
  have A1 := (Arr4.mk0' w 29).alloc (.cells #[.int .u64 x, .int .u64 0, .int .u64 0, .int .u64 0] 29)
  have A2 := Arr4.new (w.alloc (.cells #[.int .u64 0, .int .u64 0, .int .u64 0, .int .u64 0] 29)) 29 x 0 0 0
  have B0 := ((Below.refl _ w).alloc (Nat.le_refl _) (.cells #[.int .u64 0, .int .u64 0, .int .u64 0, .int .u64 0] 29)).alloc (by simp) (.cells #[.int .u64 x, .int .u64 0, .int .u64 0, .int .u64 0] 29)
  rw [World.size_alloc] at A2
  obtain ⟨W0, hW0⟩ : ∃ W0, (w.alloc (.cells #[.int .u64 0, .int .u64 0, .int .u64 0, .int .u64 0] 29)).alloc (.cells #[.int .u64 x, .int .u64 0, .int .u64 0, .int .u64 0] 29) = W0 := ⟨_, rfl⟩
  rw [hW0] at A1 A2 B0 ⊢
  clear hW0
  go_loopw [4] (fun i wr => ∃ k : Nat, 1 ≤ k ∧ k ≤ 4 ∧ i = .int .i64 (k : Int) ∧ Arr4 wr w.heap.size 29 (fun _ => 0) ∧ Arr4 wr (w.heap.size + 1) 29 (fun j => if j = 0 then x else if j < k then 18446744073709551615 else 0) ∧ Below w.heap.size w wr) (fun i _ => 4 - (intOf i).toNat)
  case atStart => exact ⟨1, by omega, by omega, rfl, A1, A2.same4 rfl rfl rfl rfl, B0⟩
  case round =>
   obtain ⟨k, hk1, hk, rfl, a1, a2, hB⟩ := hrel
   clear A1 A2 B0
   by_cases hlt : k < 4
   ·have hkI : (k : Int) < 4 := by omega
    have hk0 : (0 : Int) ≤ (k : Int) := by omega
    have fp := a2.frozen k
    have cp := a2.cell hlt
    have N1 := Lib.hid (a1.other (p := ⟨w.heap.size + 1, k, none⟩) (by simp) (.int .u64 18446744073709551615))
    have N2 := Lib.hid (a2.set hlt 18446744073709551615)
    have N3 := Lib.hid (hB.setCell (p := ⟨w.heap.size + 1, k, none⟩) (by simp) (.int .u64 18446744073709551615))
    have HK := Lib.hid (And.intro hk1 hlt)
    clear hk1 hk hlt a1 a2 hB
    go_wp2
    go_roundw
    case rel =>
     have hk := HK.out
     refine ⟨k + 1, by omega, by omega, by simp, N1.out, ?_, N3.out⟩
     have e : (fun j => if j = 0 then x else if j < k + 1 then (18446744073709551615 : Int) else 0) = (fun j => if j = k then 18446744073709551615 else if j = 0 then x else if j < k then 18446744073709551615 else 0) := by
      funext j
      by_cases e1 : j = k
      ·rw [if_pos e1, if_neg (by omega), if_pos (by omega)]
      ·rw [if_neg e1]
       by_cases e2 : j = 0
       ·rw [if_pos e2, if_pos e2]
       ·rw [if_neg e2, if_neg e2]
        by_cases e3 : j < k
        ·rw [if_pos e3, if_pos (by omega)]
        ·rw [if_neg e3, if_neg (by omega)]
     rw [e]
     exact N2.out
    case measure => have := HK.out; simp [intOf]; omega
   ·obtain rfl : k = 4 := by omega
    have c0 : wr.cell? ⟨w.heap.size + 1, 0, none⟩ = some (.int .u64 x) := a2.cell (j := 0) (by omega)
    have c1 : wr.cell? ⟨w.heap.size + 1, 1, none⟩ = some (.int .u64 18446744073709551615) := a2.cell (j := 1) (by omega)
    have c2 : wr.cell? ⟨w.heap.size + 1, 2, none⟩ = some (.int .u64 18446744073709551615) := a2.cell (j := 2) (by omega)
    have c3 : wr.cell? ⟨w.heap.size + 1, 3, none⟩ = some (.int .u64 18446744073709551615) := a2.cell (j := 3) (by omega)
    have f0 := a1.frozen 0
    have f1 := a1.frozen 1
    have f2 := a1.frozen 2
    have f3 := a1.frozen 3
    have d0 := a1.cell (j := 0) (by omega)
    have d1 := a1.cell (j := 1) (by omega)
    have d2 := a1.cell (j := 2) (by omega)
    have d3 := a1.cell (j := 3) (by omega)
    have HA1 := Lib.hid a1
    have HB := Lib.hid hB
    clear hk1 hk hlt a1 a2 hB
    go_wp2
    refine bodyPost_ret (results_word rfl rfl (HA1.out.store (fun j => if j = 0 then x else 18446744073709551615))) rfl ⟨rfl, ?_⟩
    exact (((HB.out.setCell (p := ⟨w.heap.size, 0, none⟩) (by simp) _).setCell (p := ⟨w.heap.size, 1, none⟩) (by simp) _).setCell (p := ⟨w.heap.size, 2, none⟩) (by simp) _).setCell (p := ⟨w.heap.size, 3, none⟩) (by simp) _
 ·rw [wv_of (of_pos n hI hn)]
  have hn0 : 0 ≤ n := by omega
  have hn1 : n ≤ 9223372036854775807 := h.2
  have hw : IntKind.u64.wrap n = n := by rw [IntKind.wrap_u64]; omega
  have hn2 : n < 18446744073709551616 := by omega
  clear h hI
  go_enter Try.func7, Try.ntmps7
  go_wp2
  refine bodyPost_ret (results_word rfl rfl ((Arr4.new w 29 n 0 0 0).alloc (.cells #[.int .u64 n, .int .u64 0, .int .u64 0, .int .u64 0] 29))) rfl ⟨rfl, ?_⟩
  exact ((Below.refl _ w).alloc (Nat.le_refl _) _).alloc (by simp) _
def cmR (a b : Nat) : Nat → Int
 | 0 => 0
 | k + 1 => cmpN a b k (cmR a b k)
theorem cmR_four (a b : Nat) (ha : W256 a) (hb : W256 b) : cmR a b 4 = wcmp a b := cmp_parts a b ha hb
theorem refCmp_ret (a b : Nat) (ha : W256 a) (hb : W256 b) : Ret Try.prog 24 #[wv a, wv b] (.int .i64 (wcmp a b)) := by
 intro w
 have HC := Lib.hid (cmR_four a b ha hb)
 have A1 := (Arr4.word w 29 a).alloc (.cells #[.int .u64 (lim b 0), .int .u64 (lim b 1), .int .u64 (lim b 2), .int .u64 (lim b 3)] 29)
 have A2 := Arr4.word (w.alloc (.cells #[.int .u64 (lim a 0), .int .u64 (lim a 1), .int .u64 (lim a 2), .int .u64 (lim a 3)] 29)) 29 b
 have B0 := ((Below.refl _ w).alloc (Nat.le_refl _) (.cells #[.int .u64 (lim a 0), .int .u64 (lim a 1), .int .u64 (lim a 2), .int .u64 (lim a 3)] 29)).alloc (by simp) (.cells #[.int .u64 (lim b 0), .int .u64 (lim b 1), .int .u64 (lim b 2), .int .u64 (lim b 3)] 29)
 rw [World.size_alloc] at A2
 unfold wv
 clear ha hb
 go_enter Try.func24, Try.ntmps24
 go_wp2
 obtain ⟨W0, hW0⟩ : ∃ W0, (w.alloc (.cells #[.int .u64 (lim a 0), .int .u64 (lim a 1), .int .u64 (lim a 2), .int .u64 (lim a 3)] 29)).alloc (.cells #[.int .u64 (lim b 0), .int .u64 (lim b 1), .int .u64 (lim b 2), .int .u64 (lim b 3)] 29) = W0 := ⟨_, rfl⟩
 rw [hW0] at A1 A2 B0 ⊢
 clear hW0
 go_loopw [5] (fun i wr => ∃ (z : Int) (k : Nat), i = .int .i64 z ∧ k ≤ 4 ∧ z = (k : Int) - 1 ∧ cmR a b k = wcmp a b ∧ Arr4 wr w.heap.size 29 (lim a) ∧ Arr4 wr (w.heap.size + 1) 29 (lim b) ∧ Below w.heap.size w wr) (fun i _ => (intOf i + 1).toNat)
 case atStart => exact ⟨3, 4, rfl, by omega, by omega, HC.out, A1, A2, B0⟩
 case round =>
  obtain ⟨z, k, rfl, hk, hz, hc, a1, a2, hB⟩ := hrel
  clear A1 A2 B0 HC
  by_cases hk0 : 0 < k
  ·obtain ⟨i, rfl⟩ : ∃ i, k = i + 1 := ⟨k - 1, by omega⟩
   obtain rfl : z = (i : Int) := by omega
   have hi4 : i < 4 := by omega
   have hi0 : (0 : Int) ≤ (i : Int) := by omega
   have hiI : (i : Int) < 4 := by omega
   have hst : cmpO (cmR a b i) (lim a i) (lim b i) = wcmp a b := hc
   have HA1 := Lib.hid a1
   have HA2 := Lib.hid a2
   have HB := Lib.hid hB
   have HI := Lib.hid hi4
   have ca := a1.cell hi4
   have cb := a2.cell hi4
   have e1 : ∀ x : Ext wr, x.w.cell? ⟨w.heap.size, i, none⟩ = some (.int .u64 (lim a i)) := fun x => (HA1.out.later' x.below).cell HI.out
   have e2 : ∀ x : Ext wr, x.w.cell? ⟨w.heap.size + 1, i, none⟩ = some (.int .u64 (lim b i)) := fun x => (HA2.out.later' x.below).cell HI.out
   clear hk hz hk0 hc a1 a2 hB hi4 ca cb
   generalize lim a i = x at *
   generalize lim b i = y at *
   generalize hrr : cmR a b i = r at *
   have HRR := Lib.hid hrr
   clear hrr
   by_cases h1 : x < y
   ·have hw : wcmp a b = -1 := by rw [← hst]; unfold cmpO; rw [if_pos h1]
    have HW := Lib.hid hw
    clear hst hw
    go_wp2
    refine wp_region_quietR (C := Grows wr) (by kernel_rfl) (by kernel_rfl) (grows_refl wr) ?_
    repeat (go_big_quiet_step (fail))
    refine wpQuiet_nil ?_
    rintro _ ⟨xx, rfl⟩
    go_wp2
    go_ret
    exact ⟨by rw [HW.out]; rfl, HB.out.trans (xx.below.mono HB.out.size)⟩
   ·by_cases h2 : y < x
    ·have hw : wcmp a b = 1 := by rw [← hst]; unfold cmpO; rw [if_neg h1, if_pos h2]
     have HW := Lib.hid hw
     clear hst hw
     go_wp2
     refine wp_region_quietR (C := Grows wr) (by kernel_rfl) (by kernel_rfl) (grows_refl wr) ?_
     repeat (go_big_quiet_step (fail))
     refine wpQuiet_nil ?_
     rintro _ ⟨xx, rfl⟩
     have hB1 := HB.out.trans (xx.below.mono HB.out.size)
     have e3 : ∀ x' : Ext xx.w, x'.w.cell? ⟨w.heap.size, i, none⟩ = some (.int .u64 x) := fun x' => (x'.cell (p := ⟨_, i, none⟩) (HA1.out.later' xx.below).lt).trans (e1 xx)
     have e4 : ∀ x' : Ext xx.w, x'.w.cell? ⟨w.heap.size + 1, i, none⟩ = some (.int .u64 y) := fun x' => (x'.cell (p := ⟨_, i, none⟩) (HA2.out.later' xx.below).lt).trans (e2 xx)
     have HB1 := Lib.hid hB1
     clear e1 e2 hB1
     generalize xx.w = w5 at *
     go_wp2
     refine wp_region_quietR (C := Grows w5) (by kernel_rfl) (by kernel_rfl) (grows_refl w5) ?_
     repeat (go_big_quiet_step (fail))
     refine wpQuiet_nil ?_
     rintro _ ⟨xy, rfl⟩
     go_wp2
     go_ret
     exact ⟨by rw [HW.out]; rfl, HB1.out.trans (xy.below.mono HB1.out.size)⟩
    ·have hw : r = wcmp a b := by rw [← hst]; unfold cmpO; rw [if_neg h1, if_neg h2]
     have HW := Lib.hid (HRR.out.trans hw)
     clear hst hw
     go_wp2
     refine wp_region_quietR (C := Grows wr) (by kernel_rfl) (by kernel_rfl) (grows_refl wr) ?_
     repeat (go_big_quiet_step (fail))
     refine wpQuiet_nil ?_
     rintro _ ⟨xx, rfl⟩
     have hB1 := HB.out.trans (xx.below.mono HB.out.size)
     have N1 := HA1.out.later' xx.below
     have N2 := HA2.out.later' xx.below
     have e3 : ∀ x' : Ext xx.w, x'.w.cell? ⟨w.heap.size, i, none⟩ = some (.int .u64 x) := fun x' => (x'.cell (p := ⟨_, i, none⟩) N1.lt).trans (e1 xx)
     have e4 : ∀ x' : Ext xx.w, x'.w.cell? ⟨w.heap.size + 1, i, none⟩ = some (.int .u64 y) := fun x' => (x'.cell (p := ⟨_, i, none⟩) N2.lt).trans (e2 xx)
     have HB1 := Lib.hid hB1
     have HN1 := Lib.hid N1
     have HN2 := Lib.hid N2
     clear e1 e2 hB1 N1 N2
     generalize xx.w = w5 at *
     go_wp2
     refine wp_region_quietR (C := Grows w5) (by kernel_rfl) (by kernel_rfl) (grows_refl w5) ?_
     repeat (go_big_quiet_step (fail))
     refine wpQuiet_nil ?_
     rintro _ ⟨xy, rfl⟩
     have N5 := Lib.hid (HN1.out.later' xy.below)
     have N6 := Lib.hid (HN2.out.later' xy.below)
     have N7 := Lib.hid (HB1.out.trans (xy.below.mono HB1.out.size))
     go_wp2
     go_roundw
     case rel => exact ⟨(i : Int) - 1, i, by simp, by have := HI.out; omega, rfl, HW.out, N5.out, N6.out, N7.out⟩
     case measure => first | (simp [intOf]; done) | (simp [intOf]; omega)
  ·obtain rfl : k = 0 := by omega
   obtain rfl : z = -1 := by omega
   have hw : wcmp a b = 0 := hc.symm
   have HW := Lib.hid hw
   have HB := Lib.hid hB
   clear hk hz hk0 hc a1 a2 hB hw
   go_wp2
   go_ret
   exact ⟨by rw [HW.out]; rfl, HB.out⟩
end
section
open Go Go.RowKit
attribute [local go_sem] Oper.semAt_some Grows wide_fn
theorem fill_k1 (x : Ky) (cells : Array Value) (h : cells.size = 25) : Instr.fill (fun i => some (i * 25, 25)) cells [(0, .agg (kyC x))] = some (flatKy [x]).toArray := by
 have := Great.fill_whole (s := 25) (by decide) [.agg (kyC x)] cells (fun v hv => by
  simp at hv
  subst hv
  exact kyC_size x) (by simp [h])
 simpa [Value.cells, flatKy, kyC] using this
theorem fill_k2 (x y : Ky) (cells : Array Value) (h : cells.size = 50) : Instr.fill (fun i => some (i * 25, 25)) cells [(0, .agg (kyC x)), (1, .agg (kyC y))] = some (flatKy [x, y]).toArray := by
 have := Great.fill_whole (s := 25) (by decide) [.agg (kyC x), .agg (kyC y)] cells (fun v hv => by
  simp at hv
  rcases hv with rfl | rfl <;> exact kyC_size _) (by simp [h])
 simpa [Value.cells, flatKy, kyC] using this
theorem fill_k3 (x y z : Ky) (cells : Array Value) (h : cells.size = 75) : Instr.fill (fun i => some (i * 25, 25)) cells [(0, .agg (kyC x)), (1, .agg (kyC y)), (2, .agg (kyC z))] = some (flatKy [x, y, z]).toArray := by
 have := Great.fill_whole (s := 25) (by decide) [.agg (kyC x), .agg (kyC y), .agg (kyC z)] cells (fun v hv => by
  simp at hv
  rcases hv with rfl | rfl | rfl <;> exact kyC_size _) (by simp [h])
 simpa [Value.cells, flatKy, kyC] using this
section
variable {ops : Array Oper} {rest : List Oper} {o : Oper} {a : Act} {w : World} {Q : Exit → Act → World → Prop}
theorem wpList_build_k1 (hg : o.guard = none) (y : Operand) (ho : o.op = .buildSlice 22 1 #[(0, y)]) (x : Ky) (hy : a.eval y = .agg (kyC x))
  (h : wpList Try.prog ops Q rest (a.put o.dst (.slice (some ⟨w.heap.size, 0, none⟩) 1 1)) (w.alloc (.cells (flatKy [x]).toArray 31))) : wpList Try.prog ops Q (o :: rest) a w := by
 obtain ⟨i, z, hi, hz, hzs, hsz, hby⟩ := infoKz_of
 refine wpList_buildSlice hg 22 31 1 #[(0, y)] ho (flatKy [x]).toArray i z Try.underlying22 hi hz (by rw [hsz]; decide) (by rw [hsz]; decide) ?_ h
 rw [hsz]
 simp only [List.map_toArray, List.map_cons, List.map_nil, hy]
 exact fill_k1 x _ (by simp)
theorem wpList_build_k3 (hg : o.guard = none) (y0 y1 y2 : Operand) (ho : o.op = .buildSlice 22 3 #[(0, y0), (1, y1), (2, y2)]) (x0 x1 x2 : Ky) (h0 : a.eval y0 = .agg (kyC x0)) (h1 : a.eval y1 = .agg (kyC x1)) (h2 : a.eval y2 = .agg (kyC x2))
  (h : wpList Try.prog ops Q rest (a.put o.dst (.slice (some ⟨w.heap.size, 0, none⟩) 3 3)) (w.alloc (.cells (flatKy [x0, x1, x2]).toArray 31))) : wpList Try.prog ops Q (o :: rest) a w := by
 obtain ⟨i, z, hi, hz, hzs, hsz, hby⟩ := infoKz_of
 refine wpList_buildSlice hg 22 31 3 #[(0, y0), (1, y1), (2, y2)] ho (flatKy [x0, x1, x2]).toArray i z Try.underlying22 hi hz (by rw [hsz]; decide) (by rw [hsz]; decide) ?_ h
 rw [hsz]
 simp only [List.map_toArray, List.map_cons, List.map_nil, h0, h1, h2]
 exact fill_k3 x0 x1 x2 _ (by simp)
theorem wpList_build_k2 (hw : Region.wanted o (yielded ops a.tmps) = true) (y0 y1 : Operand) (ho : o.op = .buildSlice 22 2 #[(0, y0), (1, y1)]) (x0 x1 : Ky) (h0 : a.eval y0 = .agg (kyC x0)) (h1 : a.eval y1 = .agg (kyC x1))
  (h : wpList Try.prog ops Q rest (a.put o.dst (.slice (some ⟨w.heap.size, 0, none⟩) 2 2)) (w.alloc (.cells (flatKy [x0, x1]).toArray 31))) : wpList Try.prog ops Q (o :: rest) a w := by
 obtain ⟨i, z, hi, hz, hzs, hsz, hby⟩ := infoKz_of
 refine wpList_step fun K hK => ?_
 rw [if_pos hw]
 refine wp_buildSlice 22 31 2 #[(0, y0), (1, y1)] ho (flatKy [x0, x1]).toArray i z Try.underlying22 hi hz (by rw [hsz]; decide) (by rw [hsz]; decide) ?_ (hK _ _ h)
 rw [hsz]
 simp only [List.map_toArray, List.map_cons, List.map_nil, h0, h1]
 exact fill_k2 x0 x1 _ (by simp)
end
theorem keys_made (w : World) (l : List Ky) (h : ∀ x ∈ l, KyOk x) (hl : l.length ≤ 100000) : KeysAt (w.alloc (.cells (flatKy l).toArray 31)) (.slice (some ⟨w.heap.size, 0, none⟩) l.length l.length) l := by
 refine ⟨some ⟨w.heap.size, 0, none⟩, l.length, rfl, Nat.le_refl _, by omega, h, fun i x hx => ⟨_, rfl, fun j u hj => ?_⟩⟩
 have hj25 : j < 25 := by have := (List.getElem?_eq_some_iff.1 hj).1; rwa [kyL_len] at this
 rw [Addr.add_add, Addr.add_mid, Nat.zero_add]
 exact (Has.new w 31 (flatKy l).toArray).cell _ _ (by simpa using (flatKy_at l i x j hx hj25).trans hj)
def kk : Ky := ⟨256 ^ 19, true, 0⟩
def kl : Ky := ⟨256 ^ 19, false, 0⟩
def k1 : Ky := ⟨0, false, 1⟩
theorem kk_ok : KyOk kk := ⟨by decide, by show W256 0; unfold W256; omega⟩
theorem kl_ok : KyOk kl := ⟨by decide, by show W256 0; unfold W256; omega⟩
theorem k1_ok : KyOk k1 := ⟨by decide, by show W256 1; unfold W256; omega⟩
theorem kk_cells : kyC kk = #[.int .u8 1, .int .u8 0, .int .u8 0, .int .u8 0, .int .u8 0, .int .u8 0, .int .u8 0, .int .u8 0, .int .u8 0, .int .u8 0, .int .u8 0, .int .u8 0, .int .u8 0, .int .u8 0, .int .u8 0, .int .u8 0, .int .u8 0, .int .u8 0, .int .u8 0, .int .u8 0, .bool true, .int .u64 0, .int .u64 0, .int .u64 0, .int .u64 0] := by kernel_rfl
theorem kl_cells : kyC kl = #[.int .u8 1, .int .u8 0, .int .u8 0, .int .u8 0, .int .u8 0, .int .u8 0, .int .u8 0, .int .u8 0, .int .u8 0, .int .u8 0, .int .u8 0, .int .u8 0, .int .u8 0, .int .u8 0, .int .u8 0, .int .u8 0, .int .u8 0, .int .u8 0, .int .u8 0, .int .u8 0, .bool false, .int .u64 0, .int .u64 0, .int .u64 0, .int .u64 0] := by kernel_rfl
theorem k1_cells : kyC k1 = #[.int .u8 0, .int .u8 0, .int .u8 0, .int .u8 0, .int .u8 0, .int .u8 0, .int .u8 0, .int .u8 0, .int .u8 0, .int .u8 0, .int .u8 0, .int .u8 0, .int .u8 0, .int .u8 0, .int .u8 0, .int .u8 0, .int .u8 0, .int .u8 0, .int .u8 0, .int .u8 0, .bool false, .int .u64 1, .int .u64 0, .int .u64 0, .int .u64 0] := by kernel_rfl
theorem setA : setL [kk, kl, kk] = [kl, kk] := by kernel_rfl
theorem setB : setL [kk] = [kk] := by kernel_rfl
theorem mkA_ : makeM [] [kk, kl, kk] = ([], [kl, kk], 0) := by
 rw [makeM_ok (by rfl) (by rfl) (by decide) (by rw [setA]; decide), setA]
 rfl
theorem mkB_ : makeM [kk] [] = ([kk], [], 0) := by
 rw [makeM_ok (by rfl) (by rfl) (by rw [setB]; decide) (by decide), setB]
 rfl
theorem mkC_ : makeM [] [k1] = ([], [], 1) := by
 unfold makeM
 rw [if_pos (by rfl)]
theorem upA : Kup [kl, kk] := List.pairwise_cons.2 ⟨fun z hz => by
 have : z = kk := by simpa using hz
 subst this
 unfold Kl
 have : kcmp kl kk = -1 := by kernel_rfl
 rw [this]
 decide, List.pairwise_singleton _ _⟩
theorem fitA : fitB [kl, kk] = true := fitB_yes (by decide) ((kupB_iff _).2 upA) (fun j y hy => by
 match j, hy with
 | 0, hy => injection hy with hy; subst hy; rfl
 | 1, hy => injection hy with hy; subst hy; rfl
 | j + 2, hy => simp at hy)
theorem fitK : fitB [kk] = true := fitB_yes (by decide) ((kupB_iff _).2 (List.pairwise_singleton _ _)) (fun j y hy => by
 match j, hy with
 | 0, hy => injection hy with hy; subst hy; rfl
 | j + 1, hy => simp at hy)
theorem fitN : fitB [] = true := fitB_yes (by decide) ((kupB_iff _).2 List.Pairwise.nil) (fun j y hy => by simp at hy)
theorem mkJ_ : joinM [] [kl, kk] [kk] [] = ([kk], [kl, kk], 0) := by
 unfold joinM
 rw [fitA, fitK, fitN, if_pos (by rfl)]
 show makeM [kk] [kl, kk] = _
 rw [makeM_ok (by rfl) (by rfl) (by rw [setB]; decide) (by rw [setL_self upA]; decide), setL_self upA, setB]
end
end Go.Proofs.Ytahjgllnfbejmaa
