import Derived.Test.YtbbpmcebakckaaaGreatDoorU06
/- scale: a word times a factor, and one more number. For every word and factor. -/
namespace Go.Proofs.YtbbpmcebakckaaaGreatDoor
open Go Go.RowKit Go.Shelf
attribute [local go_sem] Oper.semAt_some Grows wide_fn

def sc (z : Nat → Int) (f p : Int) : Nat → Int
  | 0 => p
  | k + 1 => tpHi (z k) f (sc z f p k) 0
def so (z : Nat → Int) (f p : Int) (k : Nat) : Int := tpLo (z k) f (sc z f p k) 0
theorem u64_zero : U64 0 := ⟨by omega, by omega⟩
theorem sc_u64 (z : Nat → Int) (f p : Int) (hz : ∀ k, U64 (z k)) (hf : U64 f) (hp : U64 p) : ∀ k, U64 (sc z f p k)
  | 0 => hp
  | k + 1 => (tp_bound _ _ _ _ (hz k) hf (sc_u64 z f p hz hf hp k) u64_zero).2
theorem so_u64 (z : Nat → Int) (f p : Int) (hz : ∀ k, U64 (z k)) (hf : U64 f) (hp : U64 p) (k : Nat) : U64 (so z f p k) := (tp_bound _ _ _ _ (hz k) hf (sc_u64 z f p hz hf hp k) u64_zero).1
def scAt (z : Nat → Int) (f p : Int) (k j : Nat) : Int := if j < k then so z f p j else 0
theorem scAt_succ (z : Nat → Int) (f p : Int) (k : Nat) : scAt z f p (k + 1) = fun j => if j = k then so z f p k else scAt z f p k j := by
  funext j; unfold scAt
  by_cases h : j = k
  · subst h; rw [if_pos (by omega), if_pos rfl]
  · rw [if_neg h]
    by_cases h2 : j < k
    · rw [if_pos (by omega), if_pos h2]
    · rw [if_neg (by omega), if_neg h2]
theorem scale_num (z : Nat → Int) (f p : Int) : num (scAt z f p 4) + 115792089237316195423570985008687907853269984665640564039457584007913129639936 * sc z f p 4 = num z * f + p := by
  rw [num_mul]
  have k0 : so z f p 0 + 18446744073709551616 * sc z f p 1 = z 0 * f + sc z f p 0 + 0 := tp_step ..
  have k1 : so z f p 1 + 18446744073709551616 * sc z f p 2 = z 1 * f + sc z f p 1 + 0 := tp_step ..
  have k2 : so z f p 2 + 18446744073709551616 * sc z f p 3 = z 2 * f + sc z f p 2 + 0 := tp_step ..
  have k3 : so z f p 3 + 18446744073709551616 * sc z f p 4 = z 3 * f + sc z f p 3 + 0 := tp_step ..
  have kz : sc z f p 0 = p := rfl
  rw [kz] at k0
  have r0 : scAt z f p 4 0 = so z f p 0 := rfl
  have r1 : scAt z f p 4 1 = so z f p 1 := rfl
  have r2 : scAt z f p 4 2 = so z f p 2 := rfl
  have r3 : scAt z f p 4 3 = so z f p 3 := rfl
  unfold num
  rw [r0, r1, r2, r3]
  clear r0 r1 r2 r3 kz
  generalize so z f p 0 = o0 at *
  generalize so z f p 1 = o1 at *
  generalize so z f p 2 = o2 at *
  generalize so z f p 3 = o3 at *
  generalize sc z f p 1 = c1 at *
  generalize sc z f p 2 = c2 at *
  generalize sc z f p 3 = c3 at *
  generalize sc z f p 4 = c4 at *
  generalize z 0 * f = p0 at *
  generalize z 1 * f = p1 at *
  generalize z 2 * f = p2 at *
  generalize z 3 * f = p3 at *
  omega
/-- A number times a factor, and one more. -/
theorem scale_parts (a f p : Nat) (ha : W256 a) (hf : f < 18446744073709551616) (hp : p < 18446744073709551616) : (∀ k, k < 4 → scAt (lim a) f p 4 k = lim (wmod (a * f + p)) k) ∧ sc (lim a) f p 4 = (((a * f + p) / 115792089237316195423570985008687907853269984665640564039457584007913129639936 : Nat) : Int) := by
  have uf : U64 (f : Int) := ⟨by omega, by omega⟩
  have up : U64 (p : Int) := ⟨by omega, by omega⟩
  have u : ∀ k, U64 (scAt (lim a) f p 4 k) := fun k => by
    unfold scAt; split
    · exact so_u64 _ _ _ (lim_u64 a) uf up k
    · exact u64_zero
  have h := scale_num (lim a) f p
  rw [num_lim a ha] at h
  have e : ((a * f + p : Nat) : Int) = a * f + p := by rw [Int.natCast_add, Int.natCast_mul]
  rw [← e] at h
  obtain ⟨n0, n1⟩ := num_lt _ (u 0) (u 1) (u 2) (u 3)
  have key : num (scAt (lim a) f p 4) = ((wmod (a * f + p) : Nat) : Int) := by
    unfold wmod
    rw [Int.natCast_emod, ← h]
    generalize num (scAt (lim a) f p 4) = t at *
    generalize sc (lim a) f p 4 = c at *
    show t = (t + 115792089237316195423570985008687907853269984665640564039457584007913129639936 * c) % 115792089237316195423570985008687907853269984665640564039457584007913129639936
    rw [Int.add_mul_emod_self_left, Int.emod_eq_of_lt n0 n1]
  have key2 : sc (lim a) f p 4 = (((a * f + p) / 115792089237316195423570985008687907853269984665640564039457584007913129639936 : Nat) : Int) := by
    rw [Int.natCast_ediv, ← h]
    generalize num (scAt (lim a) f p 4) = t at *
    generalize sc (lim a) f p 4 = c at *
    show c = (t + 115792089237316195423570985008687907853269984665640564039457584007913129639936 * c) / 115792089237316195423570985008687907853269984665640564039457584007913129639936
    rw [Int.add_mul_ediv_left _ _ (by decide), Int.ediv_eq_zero_of_lt n0 n1, Int.zero_add]
  obtain ⟨g0, g1, g2, g3⟩ := lim_num _ _ (u 0) (u 1) (u 2) (u 3) key
  refine ⟨fun k hk => ?_, key2⟩
  match k, hk with
  | 0, _ => exact g0.symm
  | 1, _ => exact g1.symm
  | 2, _ => exact g2.symm
  | 3, _ => exact g3.symm

def ScSt (w : World) (ba : Nat) (z : Nat → Int) (f p : Int) (k : Nat) (W : World) : Prop :=
  (Boxed W w.heap.size 23 (.int .u64 f) ∧ Boxed W (w.heap.size + 1) 23 (.int .u64 (sc z f p k)) ∧ Arr4 W (w.heap.size + 1 + 1) 25 (fun _ => 0) ∧ Arr4 W (w.heap.size + 1 + 1 + 1) 25 (scAt z f p k) ∧
    Boxed W (w.heap.size + 1 + 1 + 1 + 1) 88 (.pointer (some ⟨ba, 0, none⟩))) ∧ Below w.heap.size w W
theorem ScSt.own (w : World) (ba : Nat) (z : Nat → Int) (f p : Int) (B : Nat) (hB : w.heap.size ≤ B) : OwnFrom B (fun k W => ScSt w ba z f p k W) :=
  OwnFrom.and (Own.from (fun s X Y row hs hg hr => ⟨boxed_own _ _ (fun _ : Nat => _) s X Y row hs.1 hg hr, boxed_own _ _ (fun k : Nat => Value.int .u64 (sc z f p k)) s X Y row hs.2.1 hg hr, Arr4.own _ _ (fun _ : Nat => fun _ => 0) s X Y row hs.2.2.1 hg hr,
    Arr4.own _ _ (fun k : Nat => scAt z f p k) s X Y row hs.2.2.2.1 hg hr, boxed_own _ _ (fun _ : Nat => _) s X Y row hs.2.2.2.2 hg hr⟩) _) (ownFrom_below (Nat.le_refl _) hB)

set_option maxRecDepth 100000 in
set_option maxHeartbeats 2000000 in
theorem scale_any (z : Nat → Int) (f p : Int) (hz : ∀ k, U64 (z k)) (hf : U64 f) (hp : U64 p) (ba : Nat) (w : World) (hba : ba < w.heap.size) (hA : ∀ j, j < 4 → w.cell? ⟨ba, j, none⟩ = some (.int .u64 (z j))) :
    Calls Tryz.prog 73 #[.pointer (some ⟨ba, 0, none⟩), .int .u64 f, .int .u64 p] w fun e w' =>
      e = .returned (.tuple #[.agg #[.int .u64 (scAt z f p 4 0), .int .u64 (scAt z f p 4 1), .int .u64 (scAt z f p 4 2), .int .u64 (scAt z f p 4 3)], .int .u64 (sc z f p 4)]) ∧ Below w.heap.size w w' := by
  have h1 : 1 ≤ 3 := by omega
  refine (callsIn_wide (n := 3)).1 ?_
  refine callsIn_of_wp_marks Tryz.func73 rfl trivial ?_ rfl
  simp only [Tryz.ntmps73, List.size_toArray, List.length_cons, List.length_nil, Nat.reduceAdd, Nat.reduceSub, Array.replicate_succ, Array.replicate_zero, List.push_toArray, List.append_toArray, List.nil_append, List.cons_append]
  gi_wp2_with (gi_at_call 47; refine (callsIn_free free_wide (parts_any _ _)).mono ?_; rintro e w' ⟨rfl, rfl⟩)
  obtain ⟨W0, hW0⟩ : ∃ W0, (((((w.alloc (.cells #[.int .u64 f] 23)).alloc (.cells #[.int .u64 p] 23)).alloc (.cells #[.int .u64 0, .int .u64 0, .int .u64 0, .int .u64 0] 25)).alloc (.cells #[.int .u64 0, .int .u64 0, .int .u64 0, .int .u64 0] 25)).alloc (.cells #[.pointer (some ⟨ba, 0, none⟩)] 88)) = W0 := ⟨_, rfl⟩
  have hsz : W0.heap.size = w.heap.size + 5 := by rw [← hW0]; simp
  have hJ0 : ScSt w ba z f p 0 W0 := by
    rw [← hW0]
    refine ⟨⟨?_, ?_, ?_, ?_, ?_⟩, (((((Below.refl _ w).alloc (Nat.le_refl _) _).alloc (by simp) _).alloc (by simp; omega) _).alloc (by simp; omega) _).alloc (by simp; omega) _⟩
    · exact ((((Boxed.new w _ _).alloc _).alloc _).alloc _).alloc _
    · have h := Boxed.new (w.alloc (.cells #[.int .u64 f] 23)) 23 (.int .u64 p)
      rw [World.size_alloc] at h
      exact ((h.alloc _).alloc _).alloc _
    · have h := World.alloc_heap_new ((w.alloc (.cells #[.int .u64 f] 23)).alloc (.cells #[.int .u64 p] 23)) (.cells #[.int .u64 0, .int .u64 0, .int .u64 0, .int .u64 0] 25)
      rw [World.size_alloc, World.size_alloc] at h
      exact (Arr4.alloc (m := fun _ => 0) h _).alloc _
    · have h := World.alloc_heap_new (((w.alloc (.cells #[.int .u64 f] 23)).alloc (.cells #[.int .u64 p] 23)).alloc (.cells #[.int .u64 0, .int .u64 0, .int .u64 0, .int .u64 0] 25)) (.cells #[.int .u64 0, .int .u64 0, .int .u64 0, .int .u64 0] 25)
      rw [World.size_alloc, World.size_alloc, World.size_alloc] at h
      exact Arr4.alloc (m := scAt z f p 0) h _
    · have h := Boxed.new ((((w.alloc (.cells #[.int .u64 f] 23)).alloc (.cells #[.int .u64 p] 23)).alloc (.cells #[.int .u64 0, .int .u64 0, .int .u64 0, .int .u64 0] 25)).alloc (.cells #[.int .u64 0, .int .u64 0, .int .u64 0, .int .u64 0] 25)) 88 (.pointer (some ⟨ba, 0, none⟩))
      simpa using h
  rw [hW0]
  clear hW0
  have hA' : ∀ j, j < 4 → W0.cell? ⟨ba, j, none⟩ = some (.int .u64 (z j)) := fun j hj => (hJ0.2.cell (p := ⟨ba, j, none⟩) hba).trans (hA j hj)
  refine wpIn_rangeFunc_N1 rfl h1 (gf := 65) (lb := #[.pointer (some ⟨w.heap.size + 1 + 1 + 1 + 1, 0, none⟩)]) rfl trivial (enters_of Tryz.func65 (by kernel_rfl) rfl)
    (parts_seq _ (by omega) _ ba z W0 (by omega) (by omega) hJ0.1.2.2.2.2.cell hA') KeepsAt.trans (KeepsAt.refl _) (KeepsAt.b (by simp; omega)) (fun _ _ => rfl)
    (fun k W => ScSt w ba z f p k W)
    (fun _ _ _ => False)
    (ScSt.own w ba z f p _ (by omega))
    (fun _ _ _ _ _ hs _ _ => hs)
    hJ0
    (fun k => { tmps := #[.pointer (some ⟨ba, 0, none⟩), .int .u64 f, .int .u64 p, undef, .pointer (some ⟨w.heap.size, 0, none⟩), .pointer (some ⟨w.heap.size + 1, 0, none⟩), .pointer (some ⟨w.heap.size + 1 + 1, 0, none⟩), .int .u64 0, .pointer (some ⟨w.heap.size + 1 + 1 + 1, 0, none⟩), .int .i64 (k : Int), .int .u64 (z k), .agg #[.int .u64 0, .int .u64 0, .int .u64 0, .int .u64 0], .pointer (some ⟨ba, 0, none⟩), .func (.func 65) #[] #[.pointer (some ⟨w.heap.size + 1 + 1 + 1 + 1, 0, none⟩)], .int .i64 (k : Int), .int .u64 (z k), undef, undef, undef, undef, undef, undef, undef, undef, undef, undef, undef], defers := [] }) ?assign ?body ?done ?stop
  case assign =>
    intro l k W K _ hK
    gi_wp2
    exact hK
  case body =>
    rintro l k W _ hk4 ⟨⟨b4, b5, b6, b8, bP⟩, hB⟩
    have hk0 : (0 : Int) ≤ (k : Int) := by omega
    have hkI : (k : Int) < 4 := by omega
    have hcall := timesPlus_any (z k) f (sc z f p k) 0 (hz k) hf (sc_u64 z f p hz hf hp k) u64_zero
    have c4 := b4.cell
    have c5 := b5.cell
    have f5 := b5.frozen
    have f8 := b8.frozen k
    have c8 := b8.cell hk4
    have hl5 := b5.lt
    have hl8 := b8.lt
    have hlP := bP.lt
    have hsW := hB.size
    have HR := Lib.hid (scAt_succ z f p k)
    have HC : Hid (sc z f p (k + 1) = tpHi (z k) f (sc z f p k) 0) := rfl
    have HO : Hid (so z f p k = tpLo (z k) f (sc z f p k) 0) := rfl
    have HB := Lib.hid (show ScSt w ba z f p k W from ⟨⟨b4, b5, b6, b8, bP⟩, hB⟩)
    clear hz hf hp hA hA' hJ0 b4 b5 b6 b8 bP hB
    gi_wp2_with (gi_at_call 85; refine (callsIn_free (free_round l) (hcall _)).mono ?_; rintro e w' ⟨rfl, rfl⟩)
    obtain ⟨⟨b4, b5, b6, b8, bP⟩, hB⟩ := HB.out
    refine ⟨((KeepsOthers.setCell _ _ _).from _).trans ((KeepsOthers.setCell _ _ _).from _), ((KeepsAt.refl _ _).setCell (by simp; omega) _).setCell (by simp; omega) _, ⟨?_, ?_, ?_, ?_, ?_⟩, (hB.setCell (p := ⟨w.heap.size + 1 + 1 + 1, k, none⟩) (by simp; omega) _).setCell (p := ⟨w.heap.size + 1, 0, none⟩) (by simp) _⟩
    · exact Boxed.away (Boxed.away b4 (by first | omega | (simp; done) | (simp; omega)) _) (by first | omega | (simp; done) | (simp; omega)) _
    · rw [HC.out]; exact Boxed.set _ (Boxed.away b5 (by first | omega | (simp; done) | (simp; omega)) _)
    · exact Arr4.other (Arr4.other b6 (by first | omega | (simp; done) | (simp; omega)) _) (by first | omega | (simp; done) | (simp; omega)) _
    · rw [HR.out, HO.out]; exact Arr4.other (Arr4.set b8 hk4 _) (by first | omega | (simp; done) | (simp; omega)) _
    · exact Boxed.away (Boxed.away bP (by first | omega | (simp; done) | (simp; omega)) _) (by first | omega | (simp; done) | (simp; omega)) _
  case done =>
    rintro D W hD ⟨⟨b4, b5, b6, b8, bP⟩, hB⟩ hK
    have hmx : Tryz.prog.follows .mixedOrders = true := by kernel_rfl
    have c5 := b5.cell
    have c0 := b6.cell (j := 0) (by omega)
    have c1 := b6.cell (j := 1) (by omega)
    have c2 := b6.cell (j := 2) (by omega)
    have c3 := b6.cell (j := 3) (by omega)
    have f0 := b6.frozen 0
    have f1 := b6.frozen 1
    have f2 := b6.frozen 2
    have f3 := b6.frozen 3
    have d0 := b8.cell (j := 0) (by omega)
    have d1 := b8.cell (j := 1) (by omega)
    have d2 := b8.cell (j := 2) (by omega)
    have d3 := b8.cell (j := 3) (by omega)
    have HB2 := Lib.hid b6
    have HBe := Lib.hid hB
    have HK := Lib.hid hK
    clear b4 b5 b6 b8 bP hB hK hJ0 hA hA' hz hf hp
    gi_wp2
    gi_region_o
    all_goals gi_wp2
    all_goals
      have hK' := (((((KeepsOthers.setCell W ⟨w.heap.size + 1 + 1, 0, none⟩ (.int .u64 (scAt z f p 4 0))).trans (KeepsOthers.setCell _ ⟨w.heap.size + 1 + 1, 1, none⟩ (.int .u64 (scAt z f p 4 1)))).trans (KeepsOthers.setCell _ ⟨w.heap.size + 1 + 1, 2, none⟩ (.int .u64 (scAt z f p 4 2)))).trans (KeepsOthers.setCell _ ⟨w.heap.size + 1 + 1, 3, none⟩ (.int .u64 (scAt z f p 4 3)))).trans (KeepsOthers.drew _)).same D _ HK.out rfl
      have b9 := (HB2.out.store (scAt z f p 4)).drew
      refine ⟨by simp, .inl ⟨_, _, rfl, run_takeDeferred hK', ?_⟩⟩
      have b9' := Arr4.kept b9 (grownBy_putObj' _ D (.deferred none)) (fun e => by cases e; have := (show _ = _ from b9).symm.trans hK'; cases this)
      have e0 := b9'.cell (j := 0) (by omega)
      have e1 := b9'.cell (j := 1) (by omega)
      have e2 := b9'.cell (j := 2) (by omega)
      have e3 := b9'.cell (j := 3) (by omega)
      exact ⟨_, by simp [results, Tryz.f73, go_sem, e0, e1, e2, e3], rfl,
        (((((HBe.out.setCell (p := ⟨w.heap.size + 1 + 1, 0, none⟩) (by simp; omega) _).setCell (p := ⟨w.heap.size + 1 + 1, 1, none⟩) (by simp; omega) _).setCell (p := ⟨w.heap.size + 1 + 1, 2, none⟩) (by simp; omega) _).setCell (p := ⟨w.heap.size + 1 + 1, 3, none⟩) (by simp; omega) _).drew).trans (belowK_b (w := w) (Nat.le_refl _) _ D _ _ (by omega) hK' rfl rfl)⟩
  case stop =>
    rintro D c k W _ _ h _
    exact h.elim
end Go.Proofs.YtbbpmcebakckaaaGreatDoor

/- What a text of digits tells, piece by piece: plain lists. -/
namespace Go.Proofs.YtbbpmcebakckaaaGreatDoor
open Go Go.RowKit

theorem extract_list (s : ByteArray) (a b : Nat) : (s.extract a b).data.toList = (s.data.toList.drop a).take (b - a) := by
  rw [ByteArray.data_extract, Array.toList_extract, List.extract_eq_take_drop]
theorem piece_list (s : ByteArray) (k : Nat) : (piece s k).data.toList = (s.data.toList.drop (7 * k)).take 7 := by
  unfold piece
  rw [extract_list]
  have hl : (s.data.toList.drop (7 * k)).length = s.size - 7 * k := by simp
  by_cases h : 7 * k + 7 ≤ s.size
  · rw [Nat.min_eq_left h, show 7 * k + 7 - 7 * k = 7 by omega]
  · rw [Nat.min_eq_right (by omega), List.take_of_length_le (by rw [hl]; omega), List.take_of_length_le (by rw [hl]; omega)]
theorem piece_take (s : ByteArray) (k : Nat) : s.data.toList.take (7 * (k + 1)) = s.data.toList.take (7 * k) ++ (piece s k).data.toList := by
  rw [piece_list, show 7 * (k + 1) = 7 * k + 7 by omega, List.take_add]
theorem piece_size (s : ByteArray) (k : Nat) : (piece s k).size ≤ 7 := by
  have h : (piece s k).data.toList.length ≤ 7 := by rw [piece_list]; exact List.length_take_le _ _
  simpa using h

/-- What number tells. -/
def numV (K : Kind) (l : List UInt8) : Value := match numFrom K 0 l with
  | some n => if n < 115792089237316195423570985008687907853269984665640564039457584007913129639936 then .tuple #[.agg #[.int .u64 (lim n 0), .int .u64 (lim n 1), .int .u64 (lim n 2), .int .u64 (lim n 3)], .bool true] else .tuple #[.agg #[.int .u64 0, .int .u64 0, .int .u64 0, .int .u64 0], .bool false]
  | none => .tuple #[.agg #[.int .u64 0, .int .u64 0, .int .u64 0, .int .u64 0], .bool false]
theorem numV_bad (K : Kind) (l : List UInt8) (t : Nat) (h : numFrom K 0 (l.take t) = none) : numV K l = .tuple #[.agg #[.int .u64 0, .int .u64 0, .int .u64 0, .int .u64 0], .bool false] := by
  have e : numFrom K 0 l = none := by
    rw [← List.take_append_drop t l, numFrom_append, h]; rfl
  unfold numV; rw [e]
theorem numV_great (K : Kind) (l : List UInt8) (t m : Nat) (h : numFrom K 0 (l.take t) = some m) (hm : ¬ m < 115792089237316195423570985008687907853269984665640564039457584007913129639936) : numV K l = .tuple #[.agg #[.int .u64 0, .int .u64 0, .int .u64 0, .int .u64 0], .bool false] := by
  have e : numFrom K 0 l = (numFrom K 0 (l.drop t)).map fun x => m * K.base ^ (l.drop t).length + x := by
    conv => lhs; rw [← List.take_append_drop t l]
    rw [numFrom_append, h]
    exact numFrom_zero K _ m
  unfold numV
  cases hd : numFrom K 0 (l.drop t) with
  | none => rw [e, hd]; rfl
  | some x =>
    rw [e, hd]
    simp only [Option.map_some]
    rw [if_neg]
    have h1 : 1 ≤ K.base ^ (l.drop t).length := Nat.one_le_pow _ _ (by have := K.pos; omega)
    have h2 : m * 1 ≤ m * K.base ^ (l.drop t).length := Nat.mul_le_mul_left _ h1
    omega
theorem numV_good (K : Kind) (l : List UInt8) (m : Nat) (h : numFrom K 0 l = some m) (hm : W256 m) : numV K l = .tuple #[.agg #[.int .u64 (lim m 0), .int .u64 (lim m 1), .int .u64 (lim m 2), .int .u64 (lim m 3)], .bool true] := by
  unfold numV; rw [h]; exact if_pos hm
theorem numFrom_piece (K : Kind) (s : ByteArray) (k m n : Nat) (h : numFrom K 0 (s.data.toList.take (7 * k)) = some m) (hn : numFrom K 0 (piece s k).data.toList = some n) :
    numFrom K 0 (s.data.toList.take (7 * (k + 1))) = some (m * K.base ^ (piece s k).data.toList.length + n) := by
  rw [piece_take, numFrom_append, h]
  show numFrom K m _ = _
  rw [numFrom_zero, hn]; rfl
theorem numFrom_piece_none (K : Kind) (s : ByteArray) (k m : Nat) (h : numFrom K 0 (s.data.toList.take (7 * k)) = some m) (hn : numFrom K 0 (piece s k).data.toList = none) :
    numFrom K 0 (s.data.toList.take (7 * (k + 1))) = none := by
  rw [piece_take, numFrom_append, h]
  show numFrom K m _ = _
  rw [numFrom_zero, hn]; rfl
theorem unit_lt (K : Kind) (s : ByteArray) (k : Nat) : K.base ^ (piece s k).data.toList.length < 18446744073709551616 := by
  have h1 : (piece s k).data.toList.length ≤ 7 := by have := piece_size s k; simpa using this
  have h2 : K.base ^ (piece s k).data.toList.length ≤ 256 ^ (piece s k).data.toList.length := Nat.pow_le_pow_left K.top _
  have h3 : 256 ^ (piece s k).data.toList.length ≤ 256 ^ 7 := Nat.pow_le_pow_right (by decide) h1
  have h4 : (256 : Nat) ^ 7 < 18446744073709551616 := by decide
  omega
theorem small_lt (K : Kind) (s : ByteArray) (k n : Nat) (hn : numFrom K 0 (piece s k).data.toList = some n) : n < 18446744073709551616 := by
  have h := numFrom_lt K _ _ _ hn
  have := unit_lt K s k
  omega
end Go.Proofs.YtbbpmcebakckaaaGreatDoor

/- number: the word of a text of digits. For every text that is not beyond the model's reach. -/
namespace Go.Proofs.YtbbpmcebakckaaaGreatDoor
open Go Go.RowKit Go.Shelf
attribute [local go_sem] Oper.semAt_some Grows wide_fn

def NumSt (w : World) (K : Kind) (s : ByteArray) (k : Nat) (W : World) : Prop :=
  ∃ m, numFrom K 0 (s.data.toList.take (7 * k)) = some m ∧ W256 m ∧ (Arr4 W w.heap.size 25 (fun _ => 0) ∧ Boxed W (w.heap.size + 1) 4 (.bool false) ∧ Arr4 W (w.heap.size + 1 + 1) 25 (lim m) ∧ Boxed W (w.heap.size + 1 + 1 + 1) 9 (.string s)) ∧ Below w.heap.size w W
theorem NumSt.own (w : World) (K : Kind) (s : ByteArray) (B : Nat) (hB : w.heap.size ≤ B) : OwnFrom B (fun k W => NumSt w K s k W) := by
  rintro k X Y row ⟨m, h1, h2, ⟨b0, b1, b2, b3⟩, h4⟩ hg hr
  have hr' : ∀ r, row = some r → ∃ o : Obj, X.heap[r]? = some o ∧ o.isCells = false := fun r e => (hr r e).2
  exact ⟨m, h1, h2, ⟨Arr4.own _ _ (fun _ : Unit => fun _ => 0) () X Y row b0 hg hr', boxed_own _ _ (fun _ : Unit => _) () X Y row b1 hg hr', Arr4.own _ _ (fun _ : Unit => _) () X Y row b2 hg hr', boxed_own _ _ (fun _ : Unit => _) () X Y row b3 hg hr'⟩,
    ownFrom_below (β := Unit) (Nat.le_refl _) hB () X Y row h4 hg hr⟩
/-- A round that says that it is no number. -/
def NumBad (w : World) (W : World) : Prop := Arr4 W w.heap.size 25 (fun _ => 0) ∧ Boxed W (w.heap.size + 1) 4 (.bool false) ∧ Below w.heap.size w W
theorem NumBad.own (w : World) (B : Nat) (hB : w.heap.size ≤ B) : OwnFrom B (fun (_ : Nat) W => NumBad w W) := by
  rintro k X Y row ⟨b0, b1, h4⟩ hg hr
  have hr' : ∀ r, row = some r → ∃ o : Obj, X.heap[r]? = some o ∧ o.isCells = false := fun r e => (hr r e).2
  exact ⟨Arr4.own _ _ (fun _ : Unit => fun _ => 0) () X Y row b0 hg hr', boxed_own _ _ (fun _ : Unit => _) () X Y row b1 hg hr', ownFrom_below (β := Unit) (Nat.le_refl _) hB () X Y row h4 hg hr⟩
theorem Arr4.store0 {W : World} {B : Nat} {t : TypeId} (h : Arr4 W B t (fun _ => 0)) :
    Arr4 ((((W.setCell ⟨B, 0, none⟩ (.int .u64 0)).setCell ⟨B, 1, none⟩ (.int .u64 0)).setCell ⟨B, 2, none⟩ (.int .u64 0)).setCell ⟨B, 3, none⟩ (.int .u64 0)) B t (fun _ => 0) := h.store (fun _ => 0)
theorem Boxed.refix {W : World} {B : Nat} {t : TypeId} {v : Value} (h : Boxed W B t v) : Boxed (W.setCell ⟨B, 0, none⟩ v) B t v := h.set v

set_option maxRecDepth 100000 in
set_option maxHeartbeats 4000000 in
theorem number_oct (s : ByteArray) (hs : s.size ≤ 140737488355328) : Ret Tryz.prog 53 #[.string s] (numV octK s.data.toList) := by
  intro w
  have h1 : 1 ≤ 4 := by omega
  refine (callsIn_wide (n := 4)).1 ?_
  refine callsIn_of_wp_marks Tryz.func53 rfl trivial ?_ rfl
  simp only [Tryz.ntmps53, List.size_toArray, List.length_cons, List.length_nil, Nat.reduceAdd, Nat.reduceSub, Array.replicate_succ, Array.replicate_zero, List.push_toArray, List.append_toArray, List.nil_append, List.cons_append]
  gi_wp2_with (gi_at_call 71; refine (callsIn_free free_wide (pieces_any _ _)).mono ?_; rintro e w' ⟨rfl, rfl⟩)
  obtain ⟨W0, hW0⟩ : ∃ W0, ((((w.alloc (.cells #[.int .u64 0, .int .u64 0, .int .u64 0, .int .u64 0] 25)).alloc (.cells #[.bool false] 4)).alloc (.cells #[.int .u64 0, .int .u64 0, .int .u64 0, .int .u64 0] 25)).alloc (.cells #[.string s] 9)) = W0 := ⟨_, rfl⟩
  have hsz : W0.heap.size = w.heap.size + 4 := by rw [← hW0]; simp
  have hJ0 : NumSt w octK s 0 W0 := by
    rw [← hW0]
    refine ⟨0, rfl, by unfold W256; decide, ⟨?_, ?_, ?_, ?_⟩, ((((Below.refl _ w).alloc (Nat.le_refl _) _).alloc (by simp) _).alloc (by simp; omega) _).alloc (by simp; omega) _⟩
    · have h := World.alloc_heap_new w (.cells #[.int .u64 0, .int .u64 0, .int .u64 0, .int .u64 0] 25)
      exact (((Arr4.alloc (m := fun _ => 0) h _).alloc _).alloc _)
    · have h := Boxed.new (w.alloc (.cells #[.int .u64 0, .int .u64 0, .int .u64 0, .int .u64 0] 25)) 4 (.bool false)
      rw [World.size_alloc] at h
      exact (h.alloc _).alloc _
    · have h := World.alloc_heap_new ((w.alloc (.cells #[.int .u64 0, .int .u64 0, .int .u64 0, .int .u64 0] 25)).alloc (.cells #[.bool false] 4)) (.cells #[.int .u64 0, .int .u64 0, .int .u64 0, .int .u64 0] 25)
      rw [World.size_alloc, World.size_alloc] at h
      exact Arr4.alloc (m := lim 0) h _
    · have h := Boxed.new (((w.alloc (.cells #[.int .u64 0, .int .u64 0, .int .u64 0, .int .u64 0] 25)).alloc (.cells #[.bool false] 4)).alloc (.cells #[.int .u64 0, .int .u64 0, .int .u64 0, .int .u64 0] 25)) 9 (.string s)
      simpa using h
  rw [hW0]
  clear hW0
  have hcP := hJ0
  obtain ⟨_, _, _, ⟨_, _, _, bP⟩, _⟩ := hcP
  refine wpIn_rangeFunc_N1 rfl h1 (gf := 84) (lb := #[.pointer (some ⟨w.heap.size + 1 + 1 + 1, 0, none⟩)]) rfl trivial (enters_of Tryz.func84 (by kernel_rfl) rfl)
    (pieces_seq _ (by omega) _ s hs W0 (by omega) bP.cell) KeepsAt.trans (KeepsAt.refl _) (KeepsAt.b (by simp; omega)) (fun _ _ => rfl)
    (fun k W => NumSt w octK s k W)
    (fun c k W => c = .ret ∧ Hid (numV octK s.data.toList = .tuple #[.agg #[.int .u64 0, .int .u64 0, .int .u64 0, .int .u64 0], .bool false]) ∧ NumBad w W)
    (NumSt.own w octK s _ (by omega))
    (fun c => OwnFrom.and (ownFrom_pure _ _) (OwnFrom.and (ownFrom_pure _ _) (NumBad.own w _ (by omega))))
    hJ0
    (fun k => { tmps := #[.string s, undef, .pointer (some ⟨w.heap.size, 0, none⟩), .pointer (some ⟨w.heap.size + 1, 0, none⟩), .pointer (some ⟨w.heap.size + 1 + 1, 0, none⟩), .string (piece s k), undef, undef, undef, undef, .agg #[.int .u64 0, .int .u64 0, .int .u64 0, .int .u64 0], .string s, .func (.func 84) #[] #[.pointer (some ⟨w.heap.size + 1 + 1 + 1, 0, none⟩)], .string (piece s k), undef, undef, undef, undef, undef, undef, undef, undef, undef, undef, undef, undef, undef, undef, undef, undef, undef, undef, undef], defers := [] }) ?assign ?body ?done ?stop
  case assign =>
    intro l k W K _ hK
    gi_wp2
    exact hK
  case body =>
    rintro l k W _ hkN ⟨m, hm, hm256, ⟨b0, b1, b2, b3⟩, hB⟩
    have hsm := small_oct (piece s k) (piece_size s k)
    have c0 := b0.cell (j := 0) (by omega)
    have c1 := b0.cell (j := 1) (by omega)
    have c2 := b0.cell (j := 2) (by omega)
    have c3 := b0.cell (j := 3) (by omega)
    have f0 := b0.frozen 0
    have f1 := b0.frozen 1
    have f2 := b0.frozen 2
    have f3 := b0.frozen 3
    have d1 := b1.cell
    have g1 := b1.frozen
    have hl1 := b1.lt
    have hl2 := b2.lt
    have hl3 := b3.lt
    cases hd : numFrom octK 0 (piece s k).data.toList with
    | none =>
      have hv : smallV octK (piece s k).data.toList = .tuple #[.int .u64 0, .int .u64 0, .bool false] := by unfold smallV; rw [hd]
      rw [hv] at hsm
      have HS := Lib.hid hsm
      have HBAD : Hid (numV octK s.data.toList = .tuple #[.agg #[.int .u64 0, .int .u64 0, .int .u64 0, .int .u64 0], .bool false]) := numV_bad _ _ _ (numFrom_piece_none octK s k m hm hd)
      have HW := Lib.hid (show NumBad w W from ⟨b0, b1, hB⟩)
      clear hv hd hsm hm hm256 b0 b1 b2 b3 hB hJ0 bP
      gi_wp2_with (gi_at_call 72; refine (callsIn_free (free_round l) (HS.out _)).mono ?_; rintro e w' ⟨rfl, rfl⟩)
      obtain ⟨b0, b1, hB⟩ := HW.out
      exact ⟨((((((KeepsOthers.setCell _ _ _).trans (KeepsOthers.setCell _ _ _)).trans (KeepsOthers.setCell _ _ _)).trans (KeepsOthers.setCell _ _ _)).trans (KeepsOthers.setCell _ _ _))).from _, rfl, HBAD,
        Arr4.other b0.store0 (by simp) _, Boxed.refix (Boxed.away (Boxed.away (Boxed.away (Boxed.away b1 (by simp) _) (by simp) _) (by simp) _) (by simp) _), ((((hB.setCell (p := ⟨w.heap.size, 0, none⟩) (by simp) _).setCell (p := ⟨w.heap.size, 1, none⟩) (by simp) _).setCell (p := ⟨w.heap.size, 2, none⟩) (by simp) _).setCell (p := ⟨w.heap.size, 3, none⟩) (by simp) _).setCell (p := ⟨w.heap.size + 1, 0, none⟩) (by simp) _⟩
    | some n =>
      have hv : smallV octK (piece s k).data.toList = .tuple #[.int .u64 (n : Int), .int .u64 ((octK.base ^ (piece s k).data.toList.length : Nat) : Int), .bool true] := by unfold smallV; rw [hd]
      rw [hv] at hsm
      have hn := small_lt octK s k n hd
      have hu := unit_lt octK s k
      have hnext := numFrom_piece octK s k m n hm hd
      generalize octK.base ^ (piece s k).data.toList.length = U at *
      obtain ⟨hp1, hp2⟩ := scale_parts m U n hm256 hu hn
      have hsc := fun W' h1 h2 => scale_any (lim m) (U : Int) (n : Int) (lim_u64 m) ⟨by omega, by omega⟩ ⟨by omega, by omega⟩ (w.heap.size + 1 + 1) W' h1 h2
      rw [hp1 0 (by omega), hp1 1 (by omega), hp1 2 (by omega), hp1 3 (by omega), hp2] at hsc
      have HS := Lib.hid hsm
      have HSC := Lib.hid (hsc W b2.lt (fun j hj => b2.cell hj))
      have HW := Lib.hid (show Arr4 W w.heap.size 25 (fun _ => 0) ∧ Boxed W (w.heap.size + 1) 4 (.bool false) ∧ Arr4 W (w.heap.size + 1 + 1) 25 (lim m) ∧ Boxed W (w.heap.size + 1 + 1 + 1) 9 (.string s) ∧ Below w.heap.size w W from ⟨b0, b1, b2, b3, hB⟩)
      by_cases hgr : m * U + n < 115792089237316195423570985008687907853269984665640564039457584007913129639936
      · have h0 : (((m * U + n) / 115792089237316195423570985008687907853269984665640564039457584007913129639936 : Nat) : Int) = 0 := by rw [Nat.div_eq_of_lt hgr]; rfl
        rw [h0] at HSC
        rw [wmod_of hgr] at HSC
        have HN := Lib.hid hnext
        have HG : Hid (W256 (m * U + n)) := hgr
        clear hv hd hsm hm hm256 b0 b1 b2 b3 hB hJ0 bP hsc hp1 hp2 hnext hgr h0 hn hu
        generalize m * U + n = m' at *
        gi_wp2_with fail
        refine (callsIn_free (free_round l) (HS.out _)).mono ?_
        rintro e w' ⟨rfl, rfl⟩
        clear HS
        gi_wp2_with fail
        refine (callsIn_free (free_round l) HSC.out).mono ?_
        rintro e w1 ⟨rfl, hb1⟩
        obtain ⟨b0, b1, b2, b3, hB⟩ := HW.out
        have a0 := Arr4.below b0 hb1 b0.lt
        have a1 := Boxed.below b1 hb1 b1.lt
        have a2 := Arr4.below b2 hb1 b2.lt
        have a3 := Boxed.below b3 hb1 b3.lt
        have BB := hB.trans (hb1.mono hB.size)
        have KF : KeepsFrom W0.heap.size W w1 := ⟨hb1.size, fun k o _ h _ => (hb1.block k (Array.getElem?_eq_some_iff.1 h).1).trans h⟩
        have KA : KeepsAt [w.heap.size + 1 + 1 + 1] W w1 := (KeepsAt.refl _ W).below hb1 (fun b hb => by simp at hb; omega)
        have k0 := a2.cell (j := 0) (by omega)
        have k1 := a2.cell (j := 1) (by omega)
        have k2 := a2.cell (j := 2) (by omega)
        have k3 := a2.cell (j := 3) (by omega)
        have z0 := a2.frozen 0
        have z1 := a2.frozen 1
        have z2 := a2.frozen 2
        have z3 := a2.frozen 3
        have HA := Lib.hid (And.intro a0 (And.intro a1 (And.intro a2 (And.intro a3 BB))))
        have HK := Lib.hid (And.intro KF KA)
        clear a0 a1 a2 a3 BB b0 b1 b2 b3 hB hb1 HW HSC KF KA c0 c1 c2 c3 d1 f0 f1 f2 f3 g1
        gi_wp2
        obtain ⟨a0, a1, a2, a3, BB⟩ := HA.out
        obtain ⟨KF, KA⟩ := HK.out
        refine ⟨KF.trans (((((KeepsOthers.setCell _ _ _).trans (KeepsOthers.setCell _ _ _)).trans (KeepsOthers.setCell _ _ _)).trans (KeepsOthers.setCell _ _ _)).from _), (((KA.setCell (by simp) _).setCell (by simp) _).setCell (by simp) _).setCell (by simp) _, m', HN.out, HG.out, ⟨?_, ?_, ?_, ?_⟩, ?_⟩
        · exact Arr4.other (Arr4.other (Arr4.other (Arr4.other a0 (by simp; omega) _) (by simp; omega) _) (by simp; omega) _) (by simp; omega) _
        · exact Boxed.away (Boxed.away (Boxed.away (Boxed.away a1 (by simp) _) (by simp) _) (by simp) _) (by simp) _
        · exact Arr4.store a2 (lim m')
        · exact Boxed.away (Boxed.away (Boxed.away (Boxed.away a3 (by simp) _) (by simp) _) (by simp) _) (by simp) _
        · exact (((BB.setCell (p := ⟨w.heap.size + 1 + 1, 0, none⟩) (by simp; omega) _).setCell (p := ⟨w.heap.size + 1 + 1, 1, none⟩) (by simp; omega) _).setCell (p := ⟨w.heap.size + 1 + 1, 2, none⟩) (by simp; omega) _).setCell (p := ⟨w.heap.size + 1 + 1, 3, none⟩) (by simp; omega) _
      · have HBAD : Hid (numV octK s.data.toList = .tuple #[.agg #[.int .u64 0, .int .u64 0, .int .u64 0, .int .u64 0], .bool false]) := numV_great _ _ _ _ hnext hgr
        have h0 : (((((m * U + n) / 115792089237316195423570985008687907853269984665640564039457584007913129639936 : Nat) : Int) != 0) = true) := by
          have : 1 ≤ (m * U + n) / 115792089237316195423570985008687907853269984665640564039457584007913129639936 := (Nat.le_div_iff_mul_le (by decide)).2 (by omega)
          simp; omega
        generalize (((m * U + n) / 115792089237316195423570985008687907853269984665640564039457584007913129639936 : Nat) : Int) = q at *
        clear hv hd hsm hm hm256 b0 b1 b2 b3 hB hJ0 bP hsc hp1 hp2 hnext hgr hn hu
        generalize wmod (m * U + n) = m' at *
        gi_wp2_with fail
        refine (callsIn_free (free_round l) (HS.out _)).mono ?_
        rintro e w' ⟨rfl, rfl⟩
        clear HS
        gi_wp2_with fail
        refine (callsIn_free (free_round l) HSC.out).mono ?_
        rintro e w1 ⟨rfl, hb1⟩
        obtain ⟨b0, b1, b2, b3, hB⟩ := HW.out
        have a0 := Arr4.below b0 hb1 b0.lt
        have a1 := Boxed.below b1 hb1 b1.lt
        have a2 := Arr4.below b2 hb1 b2.lt
        have BB := hB.trans (hb1.mono hB.size)
        have KF : KeepsFrom W0.heap.size W w1 := ⟨hb1.size, fun k o _ h _ => (hb1.block k (Array.getElem?_eq_some_iff.1 h).1).trans h⟩
        have k0 := a2.cell (j := 0) (by omega)
        have k1 := a2.cell (j := 1) (by omega)
        have k2 := a2.cell (j := 2) (by omega)
        have k3 := a2.cell (j := 3) (by omega)
        have z0 := a2.frozen 0
        have z1 := a2.frozen 1
        have z2 := a2.frozen 2
        have z3 := a2.frozen 3
        have i0 := a0.cell (j := 0) (by omega)
        have i1 := a0.cell (j := 1) (by omega)
        have i2 := a0.cell (j := 2) (by omega)
        have i3 := a0.cell (j := 3) (by omega)
        have y0 := a0.frozen 0
        have y1 := a0.frozen 1
        have y2 := a0.frozen 2
        have y3 := a0.frozen 3
        have x1 := a1.cell
        have v1 := a1.frozen
        have HA := Lib.hid (And.intro a0 (And.intro a1 BB))
        have HK := Lib.hid KF
        clear a0 a1 a2 BB b0 b1 b2 b3 hB hb1 HW HSC KF c0 c1 c2 c3 d1 f0 f1 f2 f3 g1
        gi_wp2
        obtain ⟨a0, a1, BB⟩ := HA.out
        have KF := HK.out
        refine ⟨KF.trans ((((((((((KeepsOthers.setCell _ _ _).trans (KeepsOthers.setCell _ _ _)).trans (KeepsOthers.setCell _ _ _)).trans (KeepsOthers.setCell _ _ _)).trans (KeepsOthers.setCell _ _ _)).trans (KeepsOthers.setCell _ _ _)).trans (KeepsOthers.setCell _ _ _)).trans (KeepsOthers.setCell _ _ _)).trans (KeepsOthers.setCell _ _ _)).from _), rfl, HBAD, ?_, ?_, ?_⟩
        · exact Arr4.other (Arr4.store0 (Arr4.other (Arr4.other (Arr4.other (Arr4.other a0 (by simp; omega) _) (by simp; omega) _) (by simp; omega) _) (by simp; omega) _)) (by simp) _
        · exact Boxed.refix (Boxed.away (Boxed.away (Boxed.away (Boxed.away (Boxed.away (Boxed.away (Boxed.away (Boxed.away a1 (by simp) _) (by simp) _) (by simp) _) (by simp) _) (by simp) _) (by simp) _) (by simp) _) (by simp) _)
        · exact ((((((((BB.setCell (p := ⟨w.heap.size + 1 + 1, 0, none⟩) (by simp; omega) _).setCell (p := ⟨w.heap.size + 1 + 1, 1, none⟩) (by simp; omega) _).setCell (p := ⟨w.heap.size + 1 + 1, 2, none⟩) (by simp; omega) _).setCell (p := ⟨w.heap.size + 1 + 1, 3, none⟩) (by simp; omega) _).setCell (p := ⟨w.heap.size, 0, none⟩) (by simp) _).setCell (p := ⟨w.heap.size, 1, none⟩) (by simp) _).setCell (p := ⟨w.heap.size, 2, none⟩) (by simp) _).setCell (p := ⟨w.heap.size, 3, none⟩) (by simp) _).setCell (p := ⟨w.heap.size + 1, 0, none⟩) (by simp) _
  case done =>
    rintro D W hD ⟨m, hm, hm256, ⟨b0, b1, b2, b3⟩, hB⟩ hK
    have hfull : s.data.toList.take (7 * ((s.size + 6) / 7)) = s.data.toList := List.take_of_length_le (by simp; omega)
    rw [hfull] at hm
    have HV := Lib.hid (numV_good octK _ m hm hm256)
    have c0 := b2.cell (j := 0) (by omega)
    have c1 := b2.cell (j := 1) (by omega)
    have c2 := b2.cell (j := 2) (by omega)
    have c3 := b2.cell (j := 3) (by omega)
    have i0 := b0.cell (j := 0) (by omega)
    have i1 := b0.cell (j := 1) (by omega)
    have i2 := b0.cell (j := 2) (by omega)
    have i3 := b0.cell (j := 3) (by omega)
    have f0 := b0.frozen 0
    have f1 := b0.frozen 1
    have f2 := b0.frozen 2
    have f3 := b0.frozen 3
    have d1 := b1.cell
    have g1 := b1.frozen
    have HA := Lib.hid (And.intro b0 (And.intro b1 hB))
    have HK := Lib.hid hK
    clear b0 b1 b2 b3 hB hK hfull hm hm256 hJ0 bP
    gi_wp2
    obtain ⟨b0, b1, hB⟩ := HA.out
    have hK' := (((((KeepsOthers.setCell W ⟨w.heap.size, 0, none⟩ (.int .u64 (lim m 0))).trans (KeepsOthers.setCell _ ⟨w.heap.size, 1, none⟩ (.int .u64 (lim m 1)))).trans (KeepsOthers.setCell _ ⟨w.heap.size, 2, none⟩ (.int .u64 (lim m 2)))).trans (KeepsOthers.setCell _ ⟨w.heap.size, 3, none⟩ (.int .u64 (lim m 3)))).trans (KeepsOthers.setCell _ ⟨w.heap.size + 1, 0, none⟩ (.bool true))).same D _ HK.out rfl
    have a0 := Arr4.other (b0.store (lim m)) (p := ⟨w.heap.size + 1, 0, none⟩) (by simp) (.bool true)
    have a1 := Boxed.set (.bool true) (Boxed.away (Boxed.away (Boxed.away (Boxed.away b1 (p := ⟨w.heap.size, 0, none⟩) (by simp) (.int .u64 (lim m 0))) (p := ⟨w.heap.size, 1, none⟩) (by simp) (.int .u64 (lim m 1))) (p := ⟨w.heap.size, 2, none⟩) (by simp) (.int .u64 (lim m 2))) (p := ⟨w.heap.size, 3, none⟩) (by simp) (.int .u64 (lim m 3)))
    have a0' := Arr4.kept a0 (grownBy_putObj' _ D (.deferred none)) (fun e => by cases e; have := (show _ = _ from a0).symm.trans hK'; cases this)
    have a1' := Boxed.kept a1 (grownBy_putObj' _ D (.deferred none)) (fun e => by cases e; have := (show _ = _ from a1).symm.trans hK'; cases this)
    have e0 := a0'.cell (j := 0) (by omega)
    have e1 := a0'.cell (j := 1) (by omega)
    have e2 := a0'.cell (j := 2) (by omega)
    have e3 := a0'.cell (j := 3) (by omega)
    have e4 := a1'.cell
    refine ⟨by simp, .inl ⟨_, _, rfl, run_takeDeferred hK', ?_⟩⟩
    exact ⟨_, (by simp [results, Tryz.f53, go_sem, e0, e1, e2, e3, e4]; rfl), by rw [HV.out],
      ((((((hB.setCell (p := ⟨w.heap.size, 0, none⟩) (by simp) _).setCell (p := ⟨w.heap.size, 1, none⟩) (by simp) _).setCell (p := ⟨w.heap.size, 2, none⟩) (by simp) _).setCell (p := ⟨w.heap.size, 3, none⟩) (by simp) _).setCell (p := ⟨w.heap.size + 1, 0, none⟩) (by simp) _)).trans (belowK_b (w := w) (Nat.le_refl _) _ D _ _ (by omega) hK' rfl rfl)⟩
  case stop =>
    rintro D c k W hD hkN ⟨rfl, hbad, ⟨b0, b1, hB⟩⟩ hK
    have HA := Lib.hid (And.intro b0 (And.intro b1 hB))
    have HK := Lib.hid hK
    clear b0 b1 hB hK hJ0 bP
    gi_wp2
    obtain ⟨a0, a1, hB⟩ := HA.out
    have hK' := HK.out
    have a0' := Arr4.kept a0 (grownBy_putObj' _ D (.deferred none)) (fun e => by cases e; have := (show _ = _ from a0).symm.trans hK'; cases this)
    have a1' := Boxed.kept a1 (grownBy_putObj' _ D (.deferred none)) (fun e => by cases e; have := (show _ = _ from a1).symm.trans hK'; cases this)
    have e0 := a0'.cell (j := 0) (by omega)
    have e1 := a0'.cell (j := 1) (by omega)
    have e2 := a0'.cell (j := 2) (by omega)
    have e3 := a0'.cell (j := 3) (by omega)
    have e4 := a1'.cell
    refine ⟨by simp, .inl ⟨_, _, rfl, run_takeDeferred hK', ?_⟩⟩
    exact ⟨_, (by simp [results, Tryz.f53, go_sem, e0, e1, e2, e3, e4]; rfl), by rw [hbad.out],
      hB.trans (belowK_b (w := w) (Nat.le_refl _) _ D _ _ (by omega) hK' rfl rfl)⟩

end Go.Proofs.YtbbpmcebakckaaaGreatDoor
