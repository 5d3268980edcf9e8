/- scale: a word times a factor, and one more number. For every word and factor. -/
import Derived.Test.YtgejdkiehcpinaaDoorWordH
namespace Go.Proofs.YtgejdkiehcpinaaDoor
open Go Go.RowKit Go.Shelf
attribute [local go_sem] Oper.semAt_some Grows wide_fn

def sc (z : Nat → Int) (f p : Int) : Nat → Int
  | 0 => p
  | k + 1 => tpHi (z k) f (sc z f p k) 0
def so (z : Nat → Int) (f p : Int) (k : Nat) : Int := tpLo (z k) f (sc z f p k) 0
theorem u64_zero : U64 0 := ⟨by omega, by omega⟩
theorem sc_u64 (z : Nat → Int) (f p : Int) (hz : ∀ k, U64 (z k)) (hf : U64 f) (hp : U64 p) : ∀ k, U64 (sc z f p k)
  | 0 => hp
  | k + 1 => (tp_bound _ _ _ _ (hz k) hf (sc_u64 z f p hz hf hp k) u64_zero).2
theorem so_u64 (z : Nat → Int) (f p : Int) (hz : ∀ k, U64 (z k)) (hf : U64 f) (hp : U64 p) (k : Nat) : U64 (so z f p k) := (tp_bound _ _ _ _ (hz k) hf (sc_u64 z f p hz hf hp k) u64_zero).1
def scAt (z : Nat → Int) (f p : Int) (k j : Nat) : Int := if j < k then so z f p j else 0
theorem scAt_succ (z : Nat → Int) (f p : Int) (k : Nat) : scAt z f p (k + 1) = fun j => if j = k then so z f p k else scAt z f p k j := by
  funext j; unfold scAt
  by_cases h : j = k
  · subst h; rw [if_pos (by omega), if_pos rfl]
  · rw [if_neg h]
    by_cases h2 : j < k
    · rw [if_pos (by omega), if_pos h2]
    · rw [if_neg (by omega), if_neg h2]
theorem scale_num (z : Nat → Int) (f p : Int) : num (scAt z f p 4) + 115792089237316195423570985008687907853269984665640564039457584007913129639936 * sc z f p 4 = num z * f + p := by
  rw [num_mul]
  have k0 : so z f p 0 + 18446744073709551616 * sc z f p 1 = z 0 * f + sc z f p 0 + 0 := tp_step ..
  have k1 : so z f p 1 + 18446744073709551616 * sc z f p 2 = z 1 * f + sc z f p 1 + 0 := tp_step ..
  have k2 : so z f p 2 + 18446744073709551616 * sc z f p 3 = z 2 * f + sc z f p 2 + 0 := tp_step ..
  have k3 : so z f p 3 + 18446744073709551616 * sc z f p 4 = z 3 * f + sc z f p 3 + 0 := tp_step ..
  have kz : sc z f p 0 = p := rfl
  rw [kz] at k0
  have r0 : scAt z f p 4 0 = so z f p 0 := rfl
  have r1 : scAt z f p 4 1 = so z f p 1 := rfl
  have r2 : scAt z f p 4 2 = so z f p 2 := rfl
  have r3 : scAt z f p 4 3 = so z f p 3 := rfl
  unfold num
  rw [r0, r1, r2, r3]
  clear r0 r1 r2 r3 kz
  generalize so z f p 0 = o0 at *
  generalize so z f p 1 = o1 at *
  generalize so z f p 2 = o2 at *
  generalize so z f p 3 = o3 at *
  generalize sc z f p 1 = c1 at *
  generalize sc z f p 2 = c2 at *
  generalize sc z f p 3 = c3 at *
  generalize sc z f p 4 = c4 at *
  generalize z 0 * f = p0 at *
  generalize z 1 * f = p1 at *
  generalize z 2 * f = p2 at *
  generalize z 3 * f = p3 at *
  omega
/-- A number times a factor, and one more. -/
theorem scale_parts (a f p : Nat) (ha : W256 a) (hf : f < 18446744073709551616) (hp : p < 18446744073709551616) : (∀ k, k < 4 → scAt (lim a) f p 4 k = lim (wmod (a * f + p)) k) ∧ sc (lim a) f p 4 = (((a * f + p) / 115792089237316195423570985008687907853269984665640564039457584007913129639936 : Nat) : Int) := by
  have uf : U64 (f : Int) := ⟨by omega, by omega⟩
  have up : U64 (p : Int) := ⟨by omega, by omega⟩
  have u : ∀ k, U64 (scAt (lim a) f p 4 k) := fun k => by
    unfold scAt; split
    · exact so_u64 _ _ _ (lim_u64 a) uf up k
    · exact u64_zero
  have h := scale_num (lim a) f p
  rw [num_lim a ha] at h
  have e : ((a * f + p : Nat) : Int) = a * f + p := by rw [Int.natCast_add, Int.natCast_mul]
  rw [← e] at h
  obtain ⟨n0, n1⟩ := num_lt _ (u 0) (u 1) (u 2) (u 3)
  have key : num (scAt (lim a) f p 4) = ((wmod (a * f + p) : Nat) : Int) := by
    unfold wmod
    rw [Int.natCast_emod, ← h]
    generalize num (scAt (lim a) f p 4) = t at *
    generalize sc (lim a) f p 4 = c at *
    show t = (t + 115792089237316195423570985008687907853269984665640564039457584007913129639936 * c) % 115792089237316195423570985008687907853269984665640564039457584007913129639936
    rw [Int.add_mul_emod_self_left, Int.emod_eq_of_lt n0 n1]
  have key2 : sc (lim a) f p 4 = (((a * f + p) / 115792089237316195423570985008687907853269984665640564039457584007913129639936 : Nat) : Int) := by
    rw [Int.natCast_ediv, ← h]
    generalize num (scAt (lim a) f p 4) = t at *
    generalize sc (lim a) f p 4 = c at *
    show c = (t + 115792089237316195423570985008687907853269984665640564039457584007913129639936 * c) / 115792089237316195423570985008687907853269984665640564039457584007913129639936
    rw [Int.add_mul_ediv_left _ _ (by decide), Int.ediv_eq_zero_of_lt n0 n1, Int.zero_add]
  obtain ⟨g0, g1, g2, g3⟩ := lim_num _ _ (u 0) (u 1) (u 2) (u 3) key
  refine ⟨fun k hk => ?_, key2⟩
  match k, hk with
  | 0, _ => exact g0.symm
  | 1, _ => exact g1.symm
  | 2, _ => exact g2.symm
  | 3, _ => exact g3.symm

def ScSt (w : World) (ba : Nat) (z : Nat → Int) (f p : Int) (k : Nat) (W : World) : Prop :=
  (Boxed W w.heap.size 22 (.int .u64 f) ∧ Boxed W (w.heap.size + 1) 22 (.int .u64 (sc z f p k)) ∧ Arr4 W (w.heap.size + 1 + 1) 24 (fun _ => 0) ∧ Arr4 W (w.heap.size + 1 + 1 + 1) 24 (scAt z f p k) ∧
    Boxed W (w.heap.size + 1 + 1 + 1 + 1) 57 (.pointer (some ⟨ba, 0, none⟩))) ∧ Below w.heap.size w W
theorem ScSt.own (w : World) (ba : Nat) (z : Nat → Int) (f p : Int) (B : Nat) (hB : w.heap.size ≤ B) : OwnFrom B (fun k W => ScSt w ba z f p k W) :=
  OwnFrom.and (Own.from (fun s X Y row hs hg hr => ⟨boxed_own _ _ (fun _ : Nat => _) s X Y row hs.1 hg hr, boxed_own _ _ (fun k : Nat => Value.int .u64 (sc z f p k)) s X Y row hs.2.1 hg hr, Arr4.own _ _ (fun _ : Nat => fun _ => 0) s X Y row hs.2.2.1 hg hr,
    Arr4.own _ _ (fun k : Nat => scAt z f p k) s X Y row hs.2.2.2.1 hg hr, boxed_own _ _ (fun _ : Nat => _) s X Y row hs.2.2.2.2 hg hr⟩) _) (ownFrom_below (Nat.le_refl _) hB)

set_option maxRecDepth 100000 in
set_option maxHeartbeats 2000000 in
theorem scale_any (z : Nat → Int) (f p : Int) (hz : ∀ k, U64 (z k)) (hf : U64 f) (hp : U64 p) (ba : Nat) (w : World) (hba : ba < w.heap.size) (hA : ∀ j, j < 4 → w.cell? ⟨ba, j, none⟩ = some (.int .u64 (z j))) :
    Calls Tryd.prog 62 #[.pointer (some ⟨ba, 0, none⟩), .int .u64 f, .int .u64 p] w fun e w' =>
      e = .returned (.tuple #[.agg #[.int .u64 (scAt z f p 4 0), .int .u64 (scAt z f p 4 1), .int .u64 (scAt z f p 4 2), .int .u64 (scAt z f p 4 3)], .int .u64 (sc z f p 4)]) ∧ Below w.heap.size w w' := by
  have h1 : 1 ≤ 3 := by omega
  refine (callsIn_wide (n := 3)).1 ?_
  refine callsIn_of_wp_marks Tryd.func62 rfl trivial ?_ rfl
  simp only [Tryd.ntmps62, List.size_toArray, List.length_cons, List.length_nil, Nat.reduceAdd, Nat.reduceSub, Array.replicate_succ, Array.replicate_zero, List.push_toArray, List.append_toArray, List.nil_append, List.cons_append]
  gi_wp2_with (gi_at_call 39; refine (callsIn_free free_wide (parts_any _ _)).mono ?_; rintro e w' ⟨rfl, rfl⟩)
  obtain ⟨W0, hW0⟩ : ∃ W0, (((((w.alloc (.cells #[.int .u64 f] 22)).alloc (.cells #[.int .u64 p] 22)).alloc (.cells #[.int .u64 0, .int .u64 0, .int .u64 0, .int .u64 0] 24)).alloc (.cells #[.int .u64 0, .int .u64 0, .int .u64 0, .int .u64 0] 24)).alloc (.cells #[.pointer (some ⟨ba, 0, none⟩)] 57)) = W0 := ⟨_, rfl⟩
  have hsz : W0.heap.size = w.heap.size + 5 := by rw [← hW0]; simp
  have hJ0 : ScSt w ba z f p 0 W0 := by
    rw [← hW0]
    refine ⟨⟨?_, ?_, ?_, ?_, ?_⟩, (((((Below.refl _ w).alloc (Nat.le_refl _) _).alloc (by simp) _).alloc (by simp; omega) _).alloc (by simp; omega) _).alloc (by simp; omega) _⟩
    · exact ((((Boxed.new w _ _).alloc _).alloc _).alloc _).alloc _
    · have h := Boxed.new (w.alloc (.cells #[.int .u64 f] 22)) 22 (.int .u64 p)
      rw [World.size_alloc] at h
      exact ((h.alloc _).alloc _).alloc _
    · have h := World.alloc_heap_new ((w.alloc (.cells #[.int .u64 f] 22)).alloc (.cells #[.int .u64 p] 22)) (.cells #[.int .u64 0, .int .u64 0, .int .u64 0, .int .u64 0] 24)
      rw [World.size_alloc, World.size_alloc] at h
      exact (Arr4.alloc (m := fun _ => 0) h _).alloc _
    · have h := World.alloc_heap_new (((w.alloc (.cells #[.int .u64 f] 22)).alloc (.cells #[.int .u64 p] 22)).alloc (.cells #[.int .u64 0, .int .u64 0, .int .u64 0, .int .u64 0] 24)) (.cells #[.int .u64 0, .int .u64 0, .int .u64 0, .int .u64 0] 24)
      rw [World.size_alloc, World.size_alloc, World.size_alloc] at h
      exact Arr4.alloc (m := scAt z f p 0) h _
    · have h := Boxed.new ((((w.alloc (.cells #[.int .u64 f] 22)).alloc (.cells #[.int .u64 p] 22)).alloc (.cells #[.int .u64 0, .int .u64 0, .int .u64 0, .int .u64 0] 24)).alloc (.cells #[.int .u64 0, .int .u64 0, .int .u64 0, .int .u64 0] 24)) 57 (.pointer (some ⟨ba, 0, none⟩))
      simpa using h
  rw [hW0]
  clear hW0
  have hA' : ∀ j, j < 4 → W0.cell? ⟨ba, j, none⟩ = some (.int .u64 (z j)) := fun j hj => (hJ0.2.cell (p := ⟨ba, j, none⟩) hba).trans (hA j hj)
  refine wpIn_rangeFunc_N1 rfl h1 (gf := 52) (lb := #[.pointer (some ⟨w.heap.size + 1 + 1 + 1 + 1, 0, none⟩)]) rfl trivial (enters_of Tryd.func52 (by kernel_rfl) rfl)
    (parts_seq _ (by omega) _ ba z W0 (by omega) (by omega) hJ0.1.2.2.2.2.cell hA') KeepsAt.trans (KeepsAt.refl _) (KeepsAt.b (by simp; omega)) (fun _ _ => rfl)
    (fun k W => ScSt w ba z f p k W)
    (fun _ _ _ => False)
    (ScSt.own w ba z f p _ (by omega))
    (fun _ _ _ _ _ hs _ _ => hs)
    hJ0
    (fun k => { tmps := #[.pointer (some ⟨ba, 0, none⟩), .int .u64 f, .int .u64 p, undef, .pointer (some ⟨w.heap.size, 0, none⟩), .pointer (some ⟨w.heap.size + 1, 0, none⟩), .pointer (some ⟨w.heap.size + 1 + 1, 0, none⟩), .int .u64 0, .pointer (some ⟨w.heap.size + 1 + 1 + 1, 0, none⟩), .int .i64 (k : Int), .int .u64 (z k), .agg #[.int .u64 0, .int .u64 0, .int .u64 0, .int .u64 0], .pointer (some ⟨ba, 0, none⟩), .func (.func 52) #[] #[.pointer (some ⟨w.heap.size + 1 + 1 + 1 + 1, 0, none⟩)], .int .i64 (k : Int), .int .u64 (z k), undef, undef, undef, undef, undef, undef, undef, undef, undef, undef, undef], defers := [] }) ?assign ?body ?done ?stop
  case assign =>
    intro l k W K _ hK
    gi_wp2
    exact hK
  case body =>
    rintro l k W _ hk4 ⟨⟨b4, b5, b6, b8, bP⟩, hB⟩
    have hk0 : (0 : Int) ≤ (k : Int) := by omega
    have hkI : (k : Int) < 4 := by omega
    have hcall := timesPlus_any (z k) f (sc z f p k) 0 (hz k) hf (sc_u64 z f p hz hf hp k) u64_zero
    have c4 := b4.cell
    have c5 := b5.cell
    have f5 := b5.frozen
    have f8 := b8.frozen k
    have c8 := b8.cell hk4
    have hl5 := b5.lt
    have hl8 := b8.lt
    have hlP := bP.lt
    have hsW := hB.size
    have HR := Lib.hid (scAt_succ z f p k)
    have HC : Hid (sc z f p (k + 1) = tpHi (z k) f (sc z f p k) 0) := rfl
    have HO : Hid (so z f p k = tpLo (z k) f (sc z f p k) 0) := rfl
    have HB := Lib.hid (show ScSt w ba z f p k W from ⟨⟨b4, b5, b6, b8, bP⟩, hB⟩)
    clear hz hf hp hA hA' hJ0 b4 b5 b6 b8 bP hB
    gi_wp2_with (gi_at_call 53; refine (callsIn_free (free_round l) (hcall _)).mono ?_; rintro e w' ⟨rfl, rfl⟩)
    obtain ⟨⟨b4, b5, b6, b8, bP⟩, hB⟩ := HB.out
    refine ⟨((KeepsOthers.setCell _ _ _).from _).trans ((KeepsOthers.setCell _ _ _).from _), ((KeepsAt.refl _ _).setCell (by simp; omega) _).setCell (by simp; omega) _, ⟨?_, ?_, ?_, ?_, ?_⟩, (hB.setCell (p := ⟨w.heap.size + 1 + 1 + 1, k, none⟩) (by simp; omega) _).setCell (p := ⟨w.heap.size + 1, 0, none⟩) (by simp) _⟩
    · exact Boxed.away (Boxed.away b4 (by first | omega | (simp; done) | (simp; omega)) _) (by first | omega | (simp; done) | (simp; omega)) _
    · rw [HC.out]; exact Boxed.set _ (Boxed.away b5 (by first | omega | (simp; done) | (simp; omega)) _)
    · exact Arr4.other (Arr4.other b6 (by first | omega | (simp; done) | (simp; omega)) _) (by first | omega | (simp; done) | (simp; omega)) _
    · rw [HR.out, HO.out]; exact Arr4.other (Arr4.set b8 hk4 _) (by first | omega | (simp; done) | (simp; omega)) _
    · exact Boxed.away (Boxed.away bP (by first | omega | (simp; done) | (simp; omega)) _) (by first | omega | (simp; done) | (simp; omega)) _
  case done =>
    rintro D W hD ⟨⟨b4, b5, b6, b8, bP⟩, hB⟩ hK
    have hmx : Tryd.prog.follows .mixedOrders = true := by kernel_rfl
    have c5 := b5.cell
    have c0 := b6.cell (j := 0) (by omega)
    have c1 := b6.cell (j := 1) (by omega)
    have c2 := b6.cell (j := 2) (by omega)
    have c3 := b6.cell (j := 3) (by omega)
    have f0 := b6.frozen 0
    have f1 := b6.frozen 1
    have f2 := b6.frozen 2
    have f3 := b6.frozen 3
    have d0 := b8.cell (j := 0) (by omega)
    have d1 := b8.cell (j := 1) (by omega)
    have d2 := b8.cell (j := 2) (by omega)
    have d3 := b8.cell (j := 3) (by omega)
    have HB2 := Lib.hid b6
    have HBe := Lib.hid hB
    have HK := Lib.hid hK
    clear b4 b5 b6 b8 bP hB hK hJ0 hA hA' hz hf hp
    gi_wp2
    gi_region_o
    all_goals gi_wp2
    all_goals
      have hK' := (((((KeepsOthers.setCell W ⟨w.heap.size + 1 + 1, 0, none⟩ (.int .u64 (scAt z f p 4 0))).trans (KeepsOthers.setCell _ ⟨w.heap.size + 1 + 1, 1, none⟩ (.int .u64 (scAt z f p 4 1)))).trans (KeepsOthers.setCell _ ⟨w.heap.size + 1 + 1, 2, none⟩ (.int .u64 (scAt z f p 4 2)))).trans (KeepsOthers.setCell _ ⟨w.heap.size + 1 + 1, 3, none⟩ (.int .u64 (scAt z f p 4 3)))).trans (KeepsOthers.drew _)).same D _ HK.out rfl
      have b9 := (HB2.out.store (scAt z f p 4)).drew
      refine ⟨by simp, .inl ⟨_, _, rfl, run_takeDeferred hK', ?_⟩⟩
      have b9' := Arr4.kept b9 (grownBy_putObj' _ D (.deferred none)) (fun e => by cases e; have := (show _ = _ from b9).symm.trans hK'; cases this)
      have e0 := b9'.cell (j := 0) (by omega)
      have e1 := b9'.cell (j := 1) (by omega)
      have e2 := b9'.cell (j := 2) (by omega)
      have e3 := b9'.cell (j := 3) (by omega)
      exact ⟨_, by simp [results, Tryd.f62, go_sem, e0, e1, e2, e3], rfl,
        (((((HBe.out.setCell (p := ⟨w.heap.size + 1 + 1, 0, none⟩) (by simp; omega) _).setCell (p := ⟨w.heap.size + 1 + 1, 1, none⟩) (by simp; omega) _).setCell (p := ⟨w.heap.size + 1 + 1, 2, none⟩) (by simp; omega) _).setCell (p := ⟨w.heap.size + 1 + 1, 3, none⟩) (by simp; omega) _).drew).trans (belowK_b (w := w) (Nat.le_refl _) _ D _ _ (by omega) hK' rfl rfl)⟩
  case stop =>
    rintro D c k W _ _ h _
    exact h.elim
end Go.Proofs.YtgejdkiehcpinaaDoor
