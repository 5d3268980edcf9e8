/- Mul. For every two words. -/
import Derived.Test.YtnlcllhjhbaigaaMathM
namespace Go.Proofs.Ytnlcllhjhbaigaa
open Go Go.RowKit Go.Shelf
attribute [local go_sem] Oper.semAt_some Grows wide_fn

def MulSt (w : World) (a b : Nat) (k : Nat) (W : World) : Prop :=
  (Arr4 W w.heap.size 24 (lim a) ∧ Arr4 W (w.heap.size + 1) 24 (lim b) ∧ Arr4 W (w.heap.size + 1 + 1) 24 (fun _ => 0) ∧ Arr4 W (w.heap.size + 1 + 1 + 1) 24 (mulAt (lim a) (lim b) k) ∧
    Boxed W (w.heap.size + 1 + 1 + 1 + 1) 57 (.pointer (some ⟨w.heap.size + 1, 0, none⟩))) ∧ Below w.heap.size w W
theorem MulSt.own (w : World) (a b B : Nat) (hB : w.heap.size ≤ B) : OwnFrom B (fun k W => MulSt w a b k W) :=
  OwnFrom.and (Own.from (fun s X Y row hs hg hr => ⟨Arr4.own _ _ (fun _ : Nat => _) s X Y row hs.1 hg hr, Arr4.own _ _ (fun _ : Nat => _) s X Y row hs.2.1 hg hr, Arr4.own _ _ (fun _ : Nat => fun _ => 0) s X Y row hs.2.2.1 hg hr,
    Arr4.own _ _ (fun k : Nat => mulAt (lim a) (lim b) k) s X Y row hs.2.2.2.1 hg hr, boxed_own _ _ (fun _ : Nat => _) s X Y row hs.2.2.2.2 hg hr⟩) _) (ownFrom_below (Nat.le_refl _) hB)

theorem keepsFrom_grown {B S : Nat} {W W' : World} (h : W.grownBy W' (some S)) (hS : ∃ cs t, W.heap[S]? = some (.cells cs t (0, 0))) : KeepsFrom B W W' :=
  ⟨h.size, fun k o _ hk ho => (h.block k (Array.getElem?_eq_some_iff.1 hk).1 (fun e => by
    obtain ⟨cs, t, hc⟩ := hS
    injection e with e
    subst e
    rw [hc] at hk
    cases hk
    cases ho)).trans hk⟩
theorem KeepsAt.grown {L : List Nat} {S : Nat} {W A B : World} (h : KeepsAt L W A) (hg : A.grownBy B (some S)) (hL : ∀ b, b ∈ L → b < A.heap.size ∧ b ≠ S) : KeepsAt L W B :=
  fun b hb => (hg.block b (hL b hb).1 (fun e => (hL b hb).2 (by injection e))).trans (h b hb)
theorem below_grown {B S : Nat} {w A C : World} (h : Below B w A) (hg : A.grownBy C (some S)) (hS : B ≤ S) (hB : B ≤ A.heap.size) : Below B w C := h.grown hg hB (fun k e => by injection e with e; omega)

set_option maxRecDepth 100000 in
set_option maxHeartbeats 2000000 in
theorem mul_ret (a b : Nat) (ha : W256 a) (hb : W256 b) : Ret Try.prog 40 #[wv a, wv b] (wv (wmod (a * b))) := by
  intro w
  have hP := mul_parts a b ha hb
  have e : wv (wmod (a * b)) = .agg #[.int .u64 (mulAt (lim a) (lim b) 4 0), .int .u64 (mulAt (lim a) (lim b) 4 1), .int .u64 (mulAt (lim a) (lim b) 4 2), .int .u64 (mulAt (lim a) (lim b) 4 3)] := by
    unfold wv; rw [hP 0 (by omega), hP 1 (by omega), hP 2 (by omega), hP 3 (by omega)]
  rw [e]
  clear e hP
  unfold wv
  have h1 : 1 ≤ 4 := by omega
  refine (callsIn_wide (n := 4)).1 ?_
  refine callsIn_of_wp_marks Try.func40 rfl trivial ?_ rfl
  simp only [Try.ntmps40, List.size_toArray, List.length_cons, List.length_nil, Nat.reduceAdd, Nat.reduceSub, Array.replicate_succ, Array.replicate_zero, List.push_toArray, List.append_toArray, List.nil_append, List.cons_append]
  gi_wp2_with (gi_at_call 57; refine (callsIn_free free_wide (parts_any _ _)).mono ?_; rintro e w' ⟨rfl, rfl⟩)
  obtain ⟨W0, hW0⟩ : ∃ W0, (((((w.alloc (.cells #[.int .u64 (lim a 0), .int .u64 (lim a 1), .int .u64 (lim a 2), .int .u64 (lim a 3)] 24)).alloc (.cells #[.int .u64 (lim b 0), .int .u64 (lim b 1), .int .u64 (lim b 2), .int .u64 (lim b 3)] 24)).alloc (.cells #[.int .u64 0, .int .u64 0, .int .u64 0, .int .u64 0] 24)).alloc (.cells #[.int .u64 0, .int .u64 0, .int .u64 0, .int .u64 0] 24)).alloc (.cells #[.pointer (some ⟨w.heap.size + 1, 0, none⟩)] 57)) = W0 := ⟨_, rfl⟩
  have hsz : W0.heap.size = w.heap.size + 5 := by rw [← hW0]; simp
  have hJ0 : MulSt w a b 0 W0 := by
    rw [← hW0]
    refine ⟨⟨?_, ?_, ?_, ?_, ?_⟩, (((((Below.refl _ w).alloc (Nat.le_refl _) _).alloc (by simp) _).alloc (by simp; omega) _).alloc (by simp; omega) _).alloc (by simp; omega) _⟩
    · exact ((((Arr4.word w _ a).alloc _).alloc _).alloc _).alloc _
    · have h := Arr4.word (w.alloc (.cells #[.int .u64 (lim a 0), .int .u64 (lim a 1), .int .u64 (lim a 2), .int .u64 (lim a 3)] 24)) 24 b
      rw [World.size_alloc] at h
      exact ((h.alloc _).alloc _).alloc _
    · have h := World.alloc_heap_new ((w.alloc (.cells #[.int .u64 (lim a 0), .int .u64 (lim a 1), .int .u64 (lim a 2), .int .u64 (lim a 3)] 24)).alloc (.cells #[.int .u64 (lim b 0), .int .u64 (lim b 1), .int .u64 (lim b 2), .int .u64 (lim b 3)] 24)) (.cells #[.int .u64 0, .int .u64 0, .int .u64 0, .int .u64 0] 24)
      rw [World.size_alloc, World.size_alloc] at h
      exact (Arr4.alloc (m := fun _ => 0) h _).alloc _
    · have h := World.alloc_heap_new (((w.alloc (.cells #[.int .u64 (lim a 0), .int .u64 (lim a 1), .int .u64 (lim a 2), .int .u64 (lim a 3)] 24)).alloc (.cells #[.int .u64 (lim b 0), .int .u64 (lim b 1), .int .u64 (lim b 2), .int .u64 (lim b 3)] 24)).alloc (.cells #[.int .u64 0, .int .u64 0, .int .u64 0, .int .u64 0] 24)) (.cells #[.int .u64 0, .int .u64 0, .int .u64 0, .int .u64 0] 24)
      rw [World.size_alloc, World.size_alloc, World.size_alloc] at h
      exact Arr4.alloc (m := fun _ => 0) h _
    · have h := Boxed.new ((((w.alloc (.cells #[.int .u64 (lim a 0), .int .u64 (lim a 1), .int .u64 (lim a 2), .int .u64 (lim a 3)] 24)).alloc (.cells #[.int .u64 (lim b 0), .int .u64 (lim b 1), .int .u64 (lim b 2), .int .u64 (lim b 3)] 24)).alloc (.cells #[.int .u64 0, .int .u64 0, .int .u64 0, .int .u64 0] 24)).alloc (.cells #[.int .u64 0, .int .u64 0, .int .u64 0, .int .u64 0] 24)) 57 (.pointer (some ⟨w.heap.size + 1, 0, none⟩))
      simpa using h
  rw [hW0]
  clear hW0
  refine wpIn_rangeFunc_N1 rfl h1 (gf := 65) (lb := #[.pointer (some ⟨w.heap.size + 1 + 1 + 1 + 1, 0, none⟩)]) rfl trivial (enters_of Try.func65 (by kernel_rfl) rfl)
    (parts_seq _ (by omega) _ _ (lim b) W0 (by omega) (by omega) hJ0.1.2.2.2.2.cell (fun j hj => hJ0.1.2.1.cell hj)) KeepsAt.trans (KeepsAt.refl _) (KeepsAt.b (by simp; omega)) (fun _ _ => rfl)
    (fun k W => MulSt w a b k W)
    (fun _ _ _ => False)
    (MulSt.own w a b _ (by omega))
    (fun _ _ _ _ _ hs _ _ => hs)
    hJ0
    (fun k => { tmps := #[.agg #[.int .u64 (lim a 0), .int .u64 (lim a 1), .int .u64 (lim a 2), .int .u64 (lim a 3)], .agg #[.int .u64 (lim b 0), .int .u64 (lim b 1), .int .u64 (lim b 2), .int .u64 (lim b 3)], .pointer (some ⟨w.heap.size, 0, none⟩), .pointer (some ⟨w.heap.size + 1, 0, none⟩), .pointer (some ⟨w.heap.size + 1 + 1, 0, none⟩), .pointer (some ⟨w.heap.size + 1 + 1 + 1, 0, none⟩), .int .i64 (k : Int), .int .u64 (lim b k), .agg #[.int .u64 0, .int .u64 0, .int .u64 0, .int .u64 0], .func (.func 65) #[] #[.pointer (some ⟨w.heap.size + 1 + 1 + 1 + 1, 0, none⟩)], .int .i64 (k : Int), .int .u64 (lim b k), undef, undef, undef, undef, undef], defers := [] }) ?assign ?body ?done ?stop
  case assign =>
    intro l k W K _ hK
    gi_wp2
    exact hK
  case body =>
    rintro l k W _ hk4 ⟨⟨b0, b1, b2, b3, b4⟩, hB⟩
    have hk0 : (0 : Int) ≤ (k : Int) := by omega
    have hkI : (k : Int) ≤ 4 := by omega
    have hkN : ¬ (4 = k) := by omega
    gi_wp2_with fail
    refine (callsIn_free (free_round l) (addRow_any (lim a) (lim b k) (mulAt (lim a) (lim b) k) (lim_u64 a) (lim_u64 b k) (mulAt_u64 _ _ (lim_u64 a) (lim_u64 b) k) (w.heap.size + 1 + 1 + 1) w.heap.size k (4 - k) (by omega) W b0.lt (by omega) (fun j hj => b0.cell hj) b3)).mono ?_
    rintro e w1 ⟨rfl, hS, hG⟩
    have hl0 := b0.lt
    have hl1 := b1.lt
    have hl4 := b4.lt
    gi_wp2
    exact ⟨keepsFrom_grown hG ⟨_, _, b3⟩, (KeepsAt.refl _ _).grown hG (fun x hx => by simp at hx; omega), ⟨Arr4.kept b0 hG (by first | (simp; done) | (simp; omega)), Arr4.kept b1 hG (by first | (simp; done) | (simp; omega)), Arr4.kept b2 hG (by simp), hS, Boxed.kept b4 hG (by first | (simp; done) | (simp; omega))⟩,
      below_grown hB hG (by omega) hB.size⟩
  case done =>
    rintro D W hD ⟨⟨b0, b1, b2, b3, b4⟩, hB⟩ hK
    have c0 := b2.cell (j := 0) (by omega)
    have c1 := b2.cell (j := 1) (by omega)
    have c2 := b2.cell (j := 2) (by omega)
    have c3 := b2.cell (j := 3) (by omega)
    have f0 := b2.frozen 0
    have f1 := b2.frozen 1
    have f2 := b2.frozen 2
    have f3 := b2.frozen 3
    have d0 := b3.cell (j := 0) (by omega)
    have d1 := b3.cell (j := 1) (by omega)
    have d2 := b3.cell (j := 2) (by omega)
    have d3 := b3.cell (j := 3) (by omega)
    have HB2 := Lib.hid b2
    have HBe := Lib.hid hB
    have HK := Lib.hid hK
    clear b0 b1 b2 b3 b4 hB hK hJ0
    gi_wp2
    have hK' := ((((KeepsOthers.setCell W ⟨w.heap.size + 1 + 1, 0, none⟩ (.int .u64 (mulAt (lim a) (lim b) 4 0))).trans (KeepsOthers.setCell _ ⟨w.heap.size + 1 + 1, 1, none⟩ (.int .u64 (mulAt (lim a) (lim b) 4 1)))).trans (KeepsOthers.setCell _ ⟨w.heap.size + 1 + 1, 2, none⟩ (.int .u64 (mulAt (lim a) (lim b) 4 2)))).trans (KeepsOthers.setCell _ ⟨w.heap.size + 1 + 1, 3, none⟩ (.int .u64 (mulAt (lim a) (lim b) 4 3)))).same D _ HK.out rfl
    have b9 := HB2.out.store (mulAt (lim a) (lim b) 4)
    refine ⟨by simp, .inl ⟨_, _, rfl, run_takeDeferred hK', ?_⟩⟩
    exact ⟨_, results_word rfl rfl (Arr4.kept b9 (grownBy_putObj' _ D (.deferred none)) (fun e => by cases e; have := (show _ = _ from b9).symm.trans hK'; cases this)), rfl,
      ((((HBe.out.setCell (p := ⟨w.heap.size + 1 + 1, 0, none⟩) (by simp; omega) _).setCell (p := ⟨w.heap.size + 1 + 1, 1, none⟩) (by simp; omega) _).setCell (p := ⟨w.heap.size + 1 + 1, 2, none⟩) (by simp; omega) _).setCell (p := ⟨w.heap.size + 1 + 1, 3, none⟩) (by simp; omega) _).trans (belowK_b (w := w) (Nat.le_refl _) _ D _ _ (by omega) hK' rfl rfl)⟩
  case stop =>
    rintro D c k W _ _ h _
    exact h.elim
end Go.Proofs.Ytnlcllhjhbaigaa
