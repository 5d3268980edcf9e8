/- Part. -/
import Derived.LoopN
import Derived.Test.YtahjgllnfbejmaaG10
import Derived.Test.YtahjgllnfbejmaaG11
set_option maxRecDepth 100000
set_option maxHeartbeats 16000000
namespace Go.Proofs.Ytahjgllnfbejmaa
open Go Go.RowKit
attribute [local go_sem] Oper.semAt_some Grows wide_fn
theorem any_amid (k : Ky) (l : List Ky) : (l.any fun x => decide (k = x)) = amidB k l := by
 unfold amidB
 congr 1
 funext y
 exact decide_eq_decide.2 eq_comm
theorem clash_one (r s r2 s2 : List Ky) : clashM r s r2 s2 = (oneB s r2 s2 || oneB s2 r s) := by
 rw [Bool.eq_iff_iff]
 unfold clashM meetB oneB amidB
 simp only [Bool.or_eq_true, List.any_eq_true, decide_eq_true_eq]
 constructor
 ·rintro ((⟨a, ha, b, hb, rfl⟩ | ⟨a, ha, b, hb, rfl⟩) | ⟨a, ha, b, hb, rfl⟩)
  ·exact .inl ⟨a, ha, .inr ⟨a, hb, rfl⟩⟩
  ·exact .inl ⟨a, ha, .inl ⟨a, hb, rfl⟩⟩
  ·exact .inr ⟨a, hb, .inl ⟨a, ha, rfl⟩⟩
 ·rintro (⟨a, ha, ⟨b, hb, rfl⟩ | ⟨b, hb, rfl⟩⟩ | ⟨a, ha, ⟨b, hb, rfl⟩ | ⟨b, hb, rfl⟩⟩)
  ·exact .inl (.inr ⟨_, ha, _, hb, rfl⟩)
  ·exact .inl (.inl ⟨_, ha, _, hb, rfl⟩)
  ·exact .inr ⟨_, hb, _, ha, rfl⟩
  ·exact .inl (.inl ⟨_, hb, _, ha, rfl⟩)
def uptoK (a : Option Addr) (cap : Nat) : Option Addr := if cap = 0 then a else a.map (·.add (0 * 25))
theorem KeysAt.take {W : World} {a : Option Addr} {n cap : Nat} {l : List Ky} (h : KeysAt W (.slice a n cap) l) (m : Nat) (hm : m ≤ n) : KeysAt W (.slice (uptoK a cap) m cap) (l.take m) := by
 obtain ⟨a', cap', h1, h2, h3, h4, h5⟩ := h
 injection h1 with e1 e2 e3
 subst e1 e3
 refine ⟨_, _, by rw [List.length_take]; congr 1; omega, by rw [List.length_take]; omega, h3, fun x hx => h4 x (List.mem_of_mem_take hx), fun i x hx => ?_⟩
 have hlt := (List.getElem?_eq_some_iff.1 hx).1
 rw [List.length_take] at hlt
 rw [List.getElem?_take, if_pos (by omega)] at hx
 obtain ⟨b, e, hc⟩ := h5 i x hx
 refine ⟨b.add (0 * 25), ?_, fun j u hj => ?_⟩
 ·unfold uptoK
  rw [if_neg (by omega), e]; rfl
 ·have h := hc j u hj
  rw [Addr.add_add] at h
  rw [Addr.add_add, Addr.add_add, show 0 * 25 + (i * 25 + j) = i * 25 + j by omega]
  exact h
theorem run_upto (y : World) (a : Option Addr) (N cap m : Nat) (hm : m ≤ N) (hc : N ≤ cap) (_hm2 : m ≤ 4611686018427387903) : (Instr.sliceAt 22 (.slice a N cap) none (some (.int .i64 (m : Int))) none).run Try.prog y = .ok (.slice (uptoK a cap) m cap) y := by
 have hu := run_underlying Try.underlying22 (w := y)
 have hz := Try.sizeOf31
 have hmc : m ≤ cap := by omega
 unfold uptoK
 by_cases hcc : cap = 0
 ·subst hcc
  simp [Instr.sliceAt, Instr.slice, Instr.sliceBounds, Instr.sliceBound, asIntOf, hu, hz, hmc]
 ·simp [Instr.sliceAt, Instr.slice, Instr.sliceBounds, Instr.sliceBound, asIntOf, hu, hz, hmc, hcc]
theorem wpList_slice_upto {ops : Array Oper} {rest : List Oper} {o : Oper} {a : Act} {w : World} {Q : Exit → Act → World → Prop} (hg : o.guard = none) (x l : Operand) (ho : o.op = .slice 22 x none (some l) none) (v lv sv : Value) (hx : a.eval x = v) (hl : a.eval l = lv) (hr : (Instr.sliceAt 22 v none (some lv) none).run Try.prog w = .ok sv w)
  (h : wpList Try.prog ops Q rest (a.put o.dst sv) w) : wpList Try.prog ops Q (o :: rest) a w := by
 refine wpList_plain hg fun K hK' => ?_
 unfold Oper.wp execOp
 simp only [ho, Sem.run_bind, Sem.run_pure, Result.andThen_ok, Option.map_some, Option.map_none, hx, hl, hr]
 exact hK' _ _ h
theorem RawAt.nil (W : World) : RawAt W (.slice none 0 0) [] := ⟨none, 0, rfl, by simp, by omega, fun i p hp => by simp at hp⟩
def longL (i : Nat) : List Ky := (List.range i).map fun j => ⟨0, true, j⟩
theorem longL_succ (i : Nat) : longL (i + 1) = longL i ++ [⟨0, true, i⟩] := by unfold longL; rw [List.range_succ, List.map_append]; rfl
theorem longL_len (i : Nat) : (longL i).length = i := by simp [longL]
theorem longL_ok (i : Nat) (h : i ≤ 1000) : ∀ x ∈ longL i, KyOk x := fun x hx => by
 obtain ⟨j, hj, rfl⟩ := List.mem_map.1 hx
 have := List.mem_range.1 hj
 exact ⟨by show 0 < _; decide, by show W256 j; unfold W256; omega⟩
theorem built_long (m : Nat) : Try.prog.built 31 [(1, .bool true), (2, wv m)] = some (kyC ⟨0, true, m⟩) := by
 have h : ∀ z0 z1 z2 z3 : Int, Try.prog.built 31 [(1, .bool true), (2, .agg #[.int .u64 z0, .int .u64 z1, .int .u64 z2, .int .u64 z3])] = some #[.int .u8 0, .int .u8 0, .int .u8 0, .int .u8 0, .int .u8 0, .int .u8 0, .int .u8 0, .int .u8 0, .int .u8 0, .int .u8 0, .int .u8 0, .int .u8 0, .int .u8 0, .int .u8 0, .int .u8 0, .int .u8 0, .int .u8 0, .int .u8 0, .int .u8 0, .int .u8 0, .bool true, .int .u64 z0, .int .u64 z1, .int .u64 z2, .int .u64 z3] := by
  intro z0 z1 z2 z3
  kernel_rfl
 have e : kyC ⟨0, true, m⟩ = #[.int .u8 0, .int .u8 0, .int .u8 0, .int .u8 0, .int .u8 0, .int .u8 0, .int .u8 0, .int .u8 0, .int .u8 0, .int .u8 0, .int .u8 0, .int .u8 0, .int .u8 0, .int .u8 0, .int .u8 0, .int .u8 0, .int .u8 0, .int .u8 0, .int .u8 0, .int .u8 0, .bool true, .int .u64 (lim m 0), .int .u64 (lim m 1), .int .u64 (lim m 2), .int .u64 (lim m 3)] := by kernel_rfl
 rw [e]
 exact h _ _ _ _
theorem wpList_build_key2 {ops : Array Oper} {rest : List Oper} {o : Oper} {a : Act} {w : World} {Q : Exit → Act → World → Prop} (hw : Region.wanted o (yielded ops a.tmps) = true) (z : Operand) (ho : o.op = .build 31 #[(1, .const (.bool true)), (2, z)]) (m : Nat) (hz : a.eval z = wv m)
  (h : wpList Try.prog ops Q rest (a.put o.dst (.agg (kyC ⟨0, true, m⟩))) w) : wpList Try.prog ops Q (o :: rest) a w := by
 refine wpList_step fun K hK => ?_
 rw [if_pos hw]
 have e : Try.prog.built 31 (#[((1 : Nat), Operand.const (.bool true)), (2, z)].map fun (i, x) => (i, a.eval x)).toList = some (kyC ⟨0, true, m⟩) := by
  simp only [List.map_toArray, List.map_cons, List.map_nil, hz]
  exact built_long m
 refine wp_build 31 #[(1, .const (.bool true)), (2, z)] ho (by rw [e]; rfl) (hK _ _ ?_)
 rw [e]
 exact h
section
def Shp (v : Value) : Prop := ∃ a n c, v = .slice a n c
theorem KeysAt.shp {W : World} {v : Value} {l : List Ky} (h : KeysAt W v l) : Shp v := by
 obtain ⟨a, c, e, _⟩ := h.shape
 exact ⟨_, _, _, e⟩
def UA (R : World) (k1 k2 lk : List Ky) (x : Ky) (T0 T1 : Value) (f : Nat → Bool) (g : Nat → Value) (w : World) : Prop :=
 Below R.heap.size R w ∧
 ((f 6 = true → Shp (g 6)) ∧ (f 8 = true → Shp (g 8)) ∧ (f 11 = true → Shp (g 11)) ∧ (f 16 = true → Shp (g 16))) ∧
 (f 13 = false → (f 6 = true → KeysAt w (g 6) k1) ∧ (f 8 = true → KeysAt w (g 8) k2) ∧ (f 11 = true → KeysAt w (g 11) k2)) ∧
 (f 13 = true → f 16 = false → ∃ Y : World, R.heap.size ≤ Y.heap.size ∧ KeysAt Y (g 6) k1 ∧ KeysAt Y (g 8) k2 ∧ KeysAt Y (g 11) k2 ∧ Below Y.heap.size Y w ∧ KRow w Y.heap.size (g 13) lk) ∧
 (f 16 = true → KeysAt w (g 6) k1 ∧ KeysAt w (g 8) k2 ∧ KeysAt w (g 11) k2 ∧ KeysAt w (g 16) (lk ++ [x])) ∧
 (f 15 = true → f 16 = false → KeysAt w (g 15) [x]) ∧
 (f 9 = true → g 9 = .agg #[g 6, g 8]) ∧ (f 17 = true → g 17 = .agg #[g 11, g 16]) ∧
 (f 18 = true → ∃ B, g 18 = .slice (some ⟨B, 0, none⟩) 3 3 ∧ Has w B 38 #[T0, T1, g 6, g 8, g 11, g 16])
variable {R : World} {k1 k2 lk : List Ky} {x : Ky} {T0 T1 : Value} {f : Nat → Bool} {g : Nat → Value} {w w' : World}
theorem UA.later (h : UA R k1 k2 lk x T0 T1 f g w) (hb : Below w.heap.size w w') : UA R k1 k2 lk x T0 T1 f g w' := by
 obtain ⟨h1, hs, h3, h4, h5, h6, h7, h8, h9⟩ := h
 exact ⟨h1.trans (hb.mono h1.size), hs, fun k => ⟨fun i => ((h3 k).1 i).later hb, fun i => ((h3 k).2.1 i).later hb, fun i => ((h3 k).2.2 i).later hb⟩,
  fun i j => let ⟨Y, y1, y2, y3, y4, y5, y6⟩ := h4 i j; ⟨Y, y1, y2, y3, y4, y5.trans (hb.mono y5.size), y6.later hb⟩,
  fun i => ⟨(h5 i).1.later hb, (h5 i).2.1.later hb, (h5 i).2.2.1.later hb, (h5 i).2.2.2.later hb⟩, fun i j => (h6 i j).later hb, h7, h8, fun i => let ⟨B, e, k⟩ := h9 i; ⟨B, e, k.later hb⟩⟩
theorem UA.same {f' : Nat → Bool} {g' : Nat → Value} (h : UA R k1 k2 lk x T0 T1 f g w) (hh : ∀ j, j = 6 ∨ j = 8 ∨ j = 9 ∨ j = 11 ∨ j = 13 ∨ j = 15 ∨ j = 16 ∨ j = 17 ∨ j = 18 → f j = f' j ∧ g j = g' j) : UA R k1 k2 lk x T0 T1 f' g' w := by
 unfold UA at h ⊢
 rwa [(hh 6 (by omega)).1, (hh 6 (by omega)).2, (hh 8 (by omega)).1, (hh 8 (by omega)).2, (hh 9 (by omega)).1, (hh 9 (by omega)).2, (hh 11 (by omega)).1, (hh 11 (by omega)).2, (hh 13 (by omega)).1, (hh 13 (by omega)).2, (hh 15 (by omega)).1, (hh 15 (by omega)).2, (hh 16 (by omega)).1, (hh 16 (by omega)).2, (hh 17 (by omega)).1, (hh 17 (by omega)).2, (hh 18 (by omega)).1, (hh 18 (by omega)).2] at h
theorem UA.n6 (h : UA R k1 k2 lk x T0 T1 f g w) (hb : Below w.heap.size w w') (f9 : f 9 = false) (f13 : f 13 = false) (f16 : f 16 = false) (f17 : f 17 = false) (f18 : f 18 = false) {v : Value} (hv : KeysAt w' v k1) : UA R k1 k2 lk x T0 T1 (upd f 6 true) (upd g 6 v) w' := by
 obtain ⟨h1, ⟨s6, s8, s11, s16⟩, h3, h4, h5, h6, h7, h8, h9⟩ := h.later hb
 exact ⟨h1, ⟨fun _ => by simpa [upd] using hv.shp, by simpa [upd] using s8, by simpa [upd] using s11, fun h => by simp [upd, f16] at h⟩,
  fun _ => ⟨fun _ => by simpa [upd] using hv, by simpa [upd] using (h3 f13).2.1, by simpa [upd] using (h3 f13).2.2⟩, fun h => by simp [upd, f13] at h, fun h => by simp [upd, f16] at h, by simpa [upd] using h6, fun h => by simp [upd, f9] at h, fun h => by simp [upd, f17] at h, fun h => by simp [upd, f18] at h⟩
theorem UA.n8 (h : UA R k1 k2 lk x T0 T1 f g w) (hb : Below w.heap.size w w') (f9 : f 9 = false) (f13 : f 13 = false) (f16 : f 16 = false) (f17 : f 17 = false) (f18 : f 18 = false) {v : Value} (hv : KeysAt w' v k2) : UA R k1 k2 lk x T0 T1 (upd f 8 true) (upd g 8 v) w' := by
 obtain ⟨h1, ⟨s6, s8, s11, s16⟩, h3, h4, h5, h6, h7, h8, h9⟩ := h.later hb
 exact ⟨h1, ⟨by simpa [upd] using s6, fun _ => by simpa [upd] using hv.shp, by simpa [upd] using s11, fun h => by simp [upd, f16] at h⟩,
  fun _ => ⟨by simpa [upd] using (h3 f13).1, fun _ => by simpa [upd] using hv, by simpa [upd] using (h3 f13).2.2⟩, fun h => by simp [upd, f13] at h, fun h => by simp [upd, f16] at h, by simpa [upd] using h6, fun h => by simp [upd, f9] at h, fun h => by simp [upd, f17] at h, fun h => by simp [upd, f18] at h⟩
theorem UA.n11 (h : UA R k1 k2 lk x T0 T1 f g w) (hb : Below w.heap.size w w') (f13 : f 13 = false) (f16 : f 16 = false) (f17 : f 17 = false) (f18 : f 18 = false) {v : Value} (hv : KeysAt w' v k2) : UA R k1 k2 lk x T0 T1 (upd f 11 true) (upd g 11 v) w' := by
 obtain ⟨h1, ⟨s6, s8, s11, s16⟩, h3, h4, h5, h6, h7, h8, h9⟩ := h.later hb
 exact ⟨h1, ⟨by simpa [upd] using s6, by simpa [upd] using s8, fun _ => by simpa [upd] using hv.shp, fun h => by simp [upd, f16] at h⟩,
  fun _ => ⟨by simpa [upd] using (h3 f13).1, by simpa [upd] using (h3 f13).2.1, fun _ => by simpa [upd] using hv⟩, fun h => by simp [upd, f13] at h, fun h => by simp [upd, f16] at h, by simpa [upd] using h6, by simpa [upd] using h7, fun h => by simp [upd, f17] at h, fun h => by simp [upd, f18] at h⟩
theorem UA.n9 (h : UA R k1 k2 lk x T0 T1 f g w) : UA R k1 k2 lk x T0 T1 (upd f 9 true) (upd g 9 (.agg #[g 6, g 8])) w := by
 obtain ⟨h1, ⟨s6, s8, s11, s16⟩, h3, h4, h5, h6, h7, h8, h9⟩ := h
 exact ⟨h1, ⟨by simpa [upd] using s6, by simpa [upd] using s8, by simpa [upd] using s11, by simpa [upd] using s16⟩, by simpa [upd] using h3, by simpa [upd] using h4, by simpa [upd] using h5, by simpa [upd] using h6, fun _ => by simp [upd], by simpa [upd] using h8, by simpa [upd] using h9⟩
theorem UA.n17 (h : UA R k1 k2 lk x T0 T1 f g w) : UA R k1 k2 lk x T0 T1 (upd f 17 true) (upd g 17 (.agg #[g 11, g 16])) w := by
 obtain ⟨h1, ⟨s6, s8, s11, s16⟩, h3, h4, h5, h6, h7, h8, h9⟩ := h
 exact ⟨h1, ⟨by simpa [upd] using s6, by simpa [upd] using s8, by simpa [upd] using s11, by simpa [upd] using s16⟩, by simpa [upd] using h3, by simpa [upd] using h4, by simpa [upd] using h5, by simpa [upd] using h6, by simpa [upd] using h7, fun _ => by simp [upd], by simpa [upd] using h9⟩
theorem UA.n13 (h : UA R k1 k2 lk x T0 T1 f g w) (hb : Below w.heap.size w w') (f6 : f 6 = true) (f8 : f 8 = true) (f11 : f 11 = true) (f13 : f 13 = false) (f16 : f 16 = false) (f17 : f 17 = false) (f18 : f 18 = false) {v : Value} (hv : KRow w' w.heap.size v lk) : UA R k1 k2 lk x T0 T1 (upd f 13 true) (upd g 13 v) w' := by
 have hR := h.1.size
 have k6 := (h.2.2.1 f13).1 f6
 have k8 := (h.2.2.1 f13).2.1 f8
 have k11 := (h.2.2.1 f13).2.2 f11
 obtain ⟨h1, ⟨s6, s8, s11, s16⟩, h3, h4, h5, h6, h7, h8, h9⟩ := h.later hb
 exact ⟨h1, ⟨by simpa [upd] using s6, by simpa [upd] using s8, by simpa [upd] using s11, fun h => by simp [upd, f16] at h⟩, fun h => by simp [upd] at h,
  fun _ _ => ⟨w, hR, by simpa [upd] using k6, by simpa [upd] using k8, by simpa [upd] using k11, hb, by simpa [upd] using hv⟩, fun h => by simp [upd, f16] at h, by simpa [upd] using h6, by simpa [upd] using h7, fun h => by simp [upd, f17] at h, fun h => by simp [upd, f18] at h⟩
theorem UA.n15 (h : UA R k1 k2 lk x T0 T1 f g w) (hb : Below w.heap.size w w') {v : Value} (hv : KeysAt w' v [x]) : UA R k1 k2 lk x T0 T1 (upd f 15 true) (upd g 15 v) w' := by
 obtain ⟨h1, ⟨s6, s8, s11, s16⟩, h3, h4, h5, h6, h7, h8, h9⟩ := h.later hb
 exact ⟨h1, ⟨by simpa [upd] using s6, by simpa [upd] using s8, by simpa [upd] using s11, by simpa [upd] using s16⟩, by simpa [upd] using h3, by simpa [upd] using h4, by simpa [upd] using h5, fun _ _ => by simpa [upd] using hv, by simpa [upd] using h7, by simpa [upd] using h8, by simpa [upd] using h9⟩
theorem UA.n16 (h : UA R k1 k2 lk x T0 T1 f g w) (f13 : f 13 = true) (f17 : f 17 = false) (f18 : f 18 = false) {Y : World} (hR : R.heap.size ≤ Y.heap.size) (k6 : KeysAt Y (g 6) k1) (k8 : KeysAt Y (g 8) k2) (k11 : KeysAt Y (g 11) k2) (hY : Below Y.heap.size Y w) (hb : Below Y.heap.size w w') {v : Value} (hv : KeysAt w' v (lk ++ [x])) : UA R k1 k2 lk x T0 T1 (upd f 16 true) (upd g 16 v) w' := by
 obtain ⟨h1, ⟨s6, s8, s11, s16⟩, h3, h4, h5, h6, h7, h8, h9⟩ := h
 have hYw := hY.trans hb
 exact ⟨h1.trans (hb.mono hR), ⟨by simpa [upd] using s6, by simpa [upd] using s8, by simpa [upd] using s11, fun _ => by simpa [upd] using hv.shp⟩, fun h => by simp [upd, f13] at h, fun _ h => by simp [upd] at h,
  fun _ => ⟨by simpa [upd] using k6.later hYw, by simpa [upd] using k8.later hYw, by simpa [upd] using k11.later hYw, by simpa [upd] using hv⟩, fun _ h => by simp [upd] at h, by simpa [upd] using h7, fun h => by simp [upd, f17] at h, fun h => by simp [upd, f18] at h⟩
theorem UA.n18 (h : UA R k1 k2 lk x T0 T1 f g w) (hb : Below w.heap.size w w') {B : Nat} (hv : Has w' B 38 #[T0, T1, g 6, g 8, g 11, g 16]) : UA R k1 k2 lk x T0 T1 (upd f 18 true) (upd g 18 (.slice (some ⟨B, 0, none⟩) 3 3)) w' := by
 obtain ⟨h1, ⟨s6, s8, s11, s16⟩, h3, h4, h5, h6, h7, h8, h9⟩ := h.later hb
 exact ⟨h1, ⟨by simpa [upd] using s6, by simpa [upd] using s8, by simpa [upd] using s11, by simpa [upd] using s16⟩, by simpa [upd] using h3, by simpa [upd] using h4, by simpa [upd] using h5, by simpa [upd] using h6, by simpa [upd] using h7, by simpa [upd] using h8, fun _ => ⟨B, by simp [upd], by simpa [upd] using hv⟩⟩
end
theorem atells_any (w : World) (va : Value) (ra sa : List Ky) (hA : SetsAt w va ra sa) (x y : Ky) (hx : KyOk x) (hy : KyOk y) (v1 v2 : Value) (z1 z2 : List (Int × Int)) (h1 : RawAt w v1 z1) (h2 : RawAt w v2 z2) (many : Int) (hm : I64 many) :
  Calls Try.prog 3 #[va, .agg (kyC x), .agg (kyC y), v1, v2, .int .i64 many] w fun e w' => e = .returned (.bool true) ∧ Below w.heap.size w w' := by
 have hmx : Try.prog.follows .mixedOrders = true := by kernel_rfl
 obtain ⟨a1, c1, a2, c2, rfl, LA1, LA2⟩ := hA.shapes
 obtain ⟨n1, e1⟩ : ∃ n, ra.length = n := ⟨_, rfl⟩
 obtain ⟨n2, e2⟩ : ∃ n, sa.length = n := ⟨_, rfl⟩
 rw [e1] at LA1 ⊢
 rw [e2] at LA2 ⊢
 obtain ⟨hc1, hc2⟩ : n1 ≤ c1 ∧ n2 ≤ c2 := by
  obtain ⟨_, _, i1, i2, _⟩ := LA1
  obtain ⟨_, _, j1, j2, _⟩ := LA2
  injection i1 with _ i3 i4
  injection j1 with _ j3 j4
  omega
 have HC := hid (And.intro hc1 hc2)
 have HX := hid hx
 have HY := hid hy
 have HM := hid hm
 obtain ⟨m1, hm1⟩ : ∃ m : Nat, min (n1 : Int) 12 = (m : Int) ∧ m ≤ n1 ∧ m ≤ 12 := ⟨min n1 12, by omega, by omega, by omega⟩
 obtain ⟨m2, hm2⟩ : ∃ m : Nat, min (n2 : Int) 12 = (m : Int) ∧ m ≤ n2 ∧ m ≤ 12 := ⟨min n2 12, by omega, by omega, by omega⟩
 have SL1 := hid (fun Y : World => run_upto Y a1 n1 c1 m1 hm1.2.1 hc1 (by omega))
 have SL2 := hid (fun Y : World => run_upto Y a2 n2 c2 m2 hm2.2.1 hc2 (by omega))
 replace LA1 := LA1.take m1 hm1.2.1
 replace LA2 := LA2.take m2 hm2.2.1
 have HL := hid (And.intro hm1.2.2 hm2.2.2)
 obtain ⟨hm1, _⟩ := hm1
 obtain ⟨hm2, _⟩ := hm2
 have HMIN := hid (And.intro hm1 hm2)
 have HNL : (ra.take m1).length ≤ 12 ∧ (sa.take m2).length ≤ 12 := by
  rw [List.length_take, List.length_take]
  have := HL.out
  omega
 have HNL := hid HNL
 generalize ra.take m1 = ta at *
 generalize sa.take m2 = tb at *
 clear hA hx hy hm hm1 hm2 hc1 hc2 e1 e2
 have LR1 := h1
 have LR2 := h2
 clear h1 h2
 have Q := Below.refl w.heap.size w
 have LG := ((Has.new w 24 #[.slice a1 n1 c1, .slice a2 n2 c2]).alloc (.cells (kyC x) 31)).alloc (.cells (kyC y) 31)
 have LX := (Has.new (w.alloc (.cells #[.slice a1 n1 c1, .slice a2 n2 c2] 24)) 31 (kyC x)).alloc (.cells (kyC y) 31)
 have LY := Has.new ((w.alloc (.cells #[.slice a1 n1 c1, .slice a2 n2 c2] 24)).alloc (.cells (kyC x) 31)) 31 (kyC y)
 simp only [World.size_alloc] at LX LY
 have qa := ((newA w (.cells #[.slice a1 n1 c1, .slice a2 n2 c2] 24)).alloc (by simp) (.cells (kyC x) 31)).alloc (by simp; omega) (.cells (kyC y) 31)
 obtain ⟨V0, hV0⟩ : ∃ V0, ((w.alloc (.cells #[.slice a1 n1 c1, .slice a2 n2 c2] 24)).alloc (.cells (kyC x) 31)).alloc (.cells (kyC y) 31) = V0 := ⟨_, rfl⟩
 rw [hV0] at LG LX LY qa
 replace LA1 := LA1.later qa
 replace LA2 := LA2.later qa
 replace LR1 := LR1.later qa
 replace LR2 := LR2.later qa
 replace Q := Q.trans (qa.mono Q.size)
 clear qa
 go_enter Try.func3, Try.ntmps3
 go_wp2_with fail
 clear hV0
 refine (awake_any V0).mono ?_
 rintro _ w1 ⟨rfl, q1⟩
 replace LA1 := LA1.later q1
 replace LA2 := LA2.later q1
 replace LR1 := LR1.later q1
 replace LR2 := LR2.later q1
 replace LG := LG.later q1
 replace LX := LX.later q1
 replace LY := LY.later q1
 replace Q := Q.trans (q1.mono Q.size)
 clear q1
 go_wp2_with fail
 refine (sets10_any w1 _ _ _ _ LR1 LR2).mono ?_
 rintro _ w2 ⟨sx, sy, rfl, LS1, LS2, q1⟩
 replace LA1 := LA1.later q1
 replace LA2 := LA2.later q1
 replace LR1 := LR1.later q1
 replace LR2 := LR2.later q1
 replace LG := LG.later q1
 replace LX := LX.later q1
 replace LY := LY.later q1
 replace Q := Q.trans (q1.mono Q.size)
 clear q1
 obtain ⟨b1, d1, rfl, _, _⟩ := LS1.shape
 obtain ⟨b2, d2, rfl, _, _⟩ := LS2.shape
 obtain ⟨p1, hp1⟩ : ∃ n, (setN z1).length = n := ⟨_, rfl⟩
 obtain ⟨p2, hp2⟩ : ∃ n, (setN z2).length = n := ⟨_, rfl⟩
 rw [hp1] at LS1 ⊢
 rw [hp2] at LS2 ⊢
 have HP := hid (And.intro hp1 hp2)
 clear hp1 hp2
 have qa := newA w2 (.cells #[.slice b1 p1 d1, .slice b2 p2 d2] 24)
 have LS := Has.new w2 24 #[.slice b1 p1 d1, .slice b2 p2 d2]
 obtain ⟨V1, hV1⟩ : ∃ V1, w2.alloc (.cells #[.slice b1 p1 d1, .slice b2 p2 d2] 24) = V1 := ⟨_, rfl⟩
 rw [hV1] at qa LS
 replace LA1 := LA1.later qa
 replace LA2 := LA2.later qa
 replace LR1 := LR1.later qa
 replace LR2 := LR2.later qa
 replace LG := LG.later qa
 replace LX := LX.later qa
 replace LY := LY.later qa
 replace LS1 := LS1.later qa
 replace LS2 := LS2.later qa
 replace Q := Q.trans (qa.mono Q.size)
 clear qa
 go_wp2_with fail
 generalize w2.heap.size = gS at *
 clear hV1  
 refine wp_region_ghost [some (.pointer (some ⟨w.heap.size, 0, none⟩)), some (.slice a1 n1 c1), some (.pointer (some ⟨w.heap.size, 0, none⟩)), some (.slice a1 n1 c1), some (.int .i64 (n1 : Int)), some (.int .i64 (m1 : Int)), some (.slice (uptoK a1 c1) m1 c1), some (.pointer (some ⟨w.heap.size, 1, none⟩)), some (.slice a2 n2 c2), some (.pointer (some ⟨w.heap.size, 1, none⟩)), some (.slice a2 n2 c2), some (.int .i64 (n2 : Int)), some (.int .i64 (m2 : Int)), some (.slice (uptoK a2 c2) m2 c2), some (.agg #[.slice (uptoK a1 c1) m1 c1, .slice (uptoK a2 c2) m2 c2]), none, none] [[], [0], [], [2], [2, 3], [2, 3, 4], [0, 1, 2, 3, 4, 5], [], [7], [], [9], [9, 10], [9, 10, 11], [7, 8, 9, 10, 11, 12], [0, 1, 2, 3, 4, 5, 6, 7, 8, 9, 10, 11, 12, 13], [], [0, 1, 2, 3, 4, 5, 6, 7, 8, 9, 10, 11, 12, 13, 14, 15]] (fun f g w' => Below V1.heap.size V1 w' ∧ (f 15 = true → ∃ B, g 15 = .pointer (some ⟨B, 0, none⟩) ∧ V1.heap.size ≤ B ∧ Has w' B 24 (cellsIf (f 16) #[.slice (uptoK a1 c1) m1 c1, .slice (uptoK a2 c2) m2 c2] #[.slice none 0 0, .slice none 0 0])))
  (by kernel_rfl) (by kernel_rfl) (by kernel_rfl) ?_ ?_ ?_ ?_
 ·rintro f g wa wb ⟨h1, h2⟩ hb
  exact ⟨h1.trans (hb.mono h1.size), fun h => let ⟨B, e, hB, hL⟩ := h2 h; ⟨B, e, hB, hL.later hb⟩⟩
 ·intro f f' g g' wa h
  have ha := h 15 rfl
  have hs := h 16 rfl
  simp only [ha.1, ha.2, hs.1]
  exact id
 ·exact ⟨(Below.refl _ _).drew, by simp⟩
 rintro f g y3 ⟨h1, h2⟩ Dn
 replace LA1 := LA1.later h1
 replace LA2 := LA2.later h1
 replace LR1 := LR1.later h1
 replace LR2 := LR2.later h1
 replace LG := LG.later h1
 replace LX := LX.later h1
 replace LY := LY.later h1
 replace LS1 := LS1.later h1
 replace LS2 := LS2.later h1
 replace LS := LS.later h1
 replace Q := Q.trans (h1.mono Q.size)
 have g0 := LG.cell 0 _ rfl
 have g1 := LG.cell 1 _ rfl
 obtain ⟨hmi1, hmi2⟩ := HMIN.out
 refine GW.known _ rfl (fun hd hf => ?_) ?_
 ·go_wp2
  exact ⟨rfl, rfl, Below.refl _ _⟩
 simp only [Act.put, sT, sS, sZ]
 refine GW.known _ rfl (fun hd hf => ?_) ?_
 ·go_wp2
  exact ⟨rfl, rfl, Below.refl _ _⟩
 simp only [Act.put, sT, sS, sZ]
 refine GW.known _ rfl (fun hd hf => ?_) ?_
 ·go_wp2
  exact ⟨rfl, rfl, Below.refl _ _⟩
 simp only [Act.put, sT, sS, sZ]
 refine GW.known _ rfl (fun hd hf => ?_) ?_
 ·go_wp2
  exact ⟨rfl, rfl, Below.refl _ _⟩
 simp only [Act.put, sT, sS, sZ]
 refine GW.known _ rfl (fun hd hf => ?_) ?_
 ·go_wp2
  exact ⟨rfl, rfl, Below.refl _ _⟩
 simp only [Act.put, sT, sS, sZ]
 refine GW.known _ rfl (fun hd hf => ?_) ?_
 ·go_wp2
  exact ⟨rfl, rfl, Below.refl _ _⟩
 simp only [Act.put, sT, sS, sZ]
 refine GW.known _ rfl (fun hd hf => ?_) ?_
 ·go_wp2_with (refine wpList_slice_upto rfl (.tmp 41) (.tmp 45) rfl _ _ _ rfl rfl (SL1.out _) ?_)
  exact ⟨rfl, rfl, Below.refl _ _⟩
 simp only [Act.put, sT, sS, sZ]
 refine GW.known _ rfl (fun hd hf => ?_) ?_
 ·go_wp2
  exact ⟨rfl, rfl, Below.refl _ _⟩
 simp only [Act.put, sT, sS, sZ]
 refine GW.known _ rfl (fun hd hf => ?_) ?_
 ·go_wp2
  exact ⟨rfl, rfl, Below.refl _ _⟩
 simp only [Act.put, sT, sS, sZ]
 refine GW.known _ rfl (fun hd hf => ?_) ?_
 ·go_wp2
  exact ⟨rfl, rfl, Below.refl _ _⟩
 simp only [Act.put, sT, sS, sZ]
 refine GW.known _ rfl (fun hd hf => ?_) ?_
 ·go_wp2
  exact ⟨rfl, rfl, Below.refl _ _⟩
 simp only [Act.put, sT, sS, sZ]
 refine GW.known _ rfl (fun hd hf => ?_) ?_
 ·go_wp2
  exact ⟨rfl, rfl, Below.refl _ _⟩
 simp only [Act.put, sT, sS, sZ]
 refine GW.known _ rfl (fun hd hf => ?_) ?_
 ·go_wp2
  exact ⟨rfl, rfl, Below.refl _ _⟩
 simp only [Act.put, sT, sS, sZ]
 refine GW.known _ rfl (fun hd hf => ?_) ?_
 ·go_wp2_with (refine wpList_slice_upto rfl (.tmp 48) (.tmp 52) rfl _ _ _ rfl rfl (SL2.out _) ?_)
  exact ⟨rfl, rfl, Below.refl _ _⟩
 simp only [Act.put, sT, sS, sZ]
 refine GW.known _ rfl (fun hd hf => ?_) ?_
 ·go_wp2
  exact ⟨rfl, rfl, Below.refl _ _⟩
 simp only [Act.put, sT, sS, sZ]
 refine GW.open rfl (fun hd hf => ?_) ?_
 ·have fs : f 16 = false := by
   cases h : f 16 with
   | false => rfl
   | true => have := Dn 16 h 15 (by decide); rw [hf] at this; cases this
  have fu : upd f 15 true 16 = false := (upd_ne f true (show (16 : Nat) ≠ 15 by decide)).trans fs
  go_wp2
  refine ⟨rfl, h1.alloc h1.size _, fun _ => ⟨_, rfl, h1.size, ?_⟩⟩
  show Has _ _ 24 (cellsIf (upd f 15 true 16) #[.slice (uptoK a1 c1) m1 c1, .slice (uptoK a2 c2) m2 c2] #[.slice none 0 0, .slice none 0 0])
  rw [fu, cellsIf_false]
  exact Has.new _ _ _
 simp only [Act.put, sT, sS, sZ]
 refine GW.open rfl (fun hd hf => ?_) ?_
 ·obtain ⟨B, eB, hB, LB⟩ := h2 (hd 15 (by decide))
  rw [hf, cellsIf_false] at LB
  rw [eB]
  have cc0 := LB.cell 0 _ rfl
  have zz0 := LB.frozen 0
  have cc1 := LB.cell 1 _ rfl
  have zz1 := LB.frozen 1
  go_wp2
  refine ⟨rfl, (h1.setCell (p := ⟨B, 0, none⟩) hB (.slice (uptoK a1 c1) m1 c1)).setCell (p := ⟨B, 1, none⟩) hB (.slice (uptoK a2 c2) m2 c2), fun _ => ⟨B, eB, hB, ?_⟩⟩
  show Has _ B 24 (cellsIf (upd f 16 true 16) #[.slice (uptoK a1 c1) m1 c1, .slice (uptoK a2 c2) m2 c2] #[.slice none 0 0, .slice none 0 0])
  rw [upd_self, cellsIf_true]
  exact (LB.set 0 (.slice (uptoK a1 c1) m1 c1)).set 1 (.slice (uptoK a2 c2) m2 c2)
 simp only [Act.put]
 refine GW.nil (fun hall => ?_)
 obtain ⟨gT, eB, hB, LT⟩ := h2 (hall 15 (by omega))
 rw [hall 16 (by omega), cellsIf_true] at LT
 clear h2 Dn hall g0 g1 hmi1 hmi2 h1 SL1 SL2 HMIN HC
 rw [eB]
 clear eB hB LG
 go_wp2_with fail
 refine (sets10_any y3 _ _ _ [] LR2 (RawAt.nil _)).mono ?_
 rintro _ w4 ⟨ux, uy, rfl, LU1, LU2, q1⟩
 replace LA1 := LA1.later q1
 replace LA2 := LA2.later q1
 replace LR1 := LR1.later q1
 replace LR2 := LR2.later q1
 replace LX := LX.later q1
 replace LY := LY.later q1
 replace LS1 := LS1.later q1
 replace LS2 := LS2.later q1
 replace LS := LS.later q1
 replace LT := LT.later q1
 replace Q := Q.trans (q1.mono Q.size)
 clear q1
 obtain ⟨b3, d3, rfl, _, _⟩ := LU1.shape
 obtain ⟨b4, d4, rfl, _, _⟩ := LU2.shape
 obtain ⟨p3, hp3⟩ : ∃ n, (setN z2).length = n := ⟨_, rfl⟩
 obtain ⟨p4, hp4⟩ : ∃ n, (setN []).length = n := ⟨_, rfl⟩
 rw [hp3] at LU1 ⊢
 rw [hp4] at LU2 ⊢
 have HP2 := hid (And.intro hp3 hp4)
 clear hp3 hp4
 have qa := newA w4 (.cells #[.slice b3 p3 d3, .slice b4 p4 d4] 24)
 have LU := Has.new w4 24 #[.slice b3 p3 d3, .slice b4 p4 d4]
 obtain ⟨V2, hV2⟩ : ∃ V2, w4.alloc (.cells #[.slice b3 p3 d3, .slice b4 p4 d4] 24) = V2 := ⟨_, rfl⟩
 rw [hV2] at qa LU
 replace LA1 := LA1.later qa
 replace LA2 := LA2.later qa
 replace LR1 := LR1.later qa
 replace LR2 := LR2.later qa
 replace LX := LX.later qa
 replace LY := LY.later qa
 replace LS1 := LS1.later qa
 replace LS2 := LS2.later qa
 replace LS := LS.later qa
 replace LT := LT.later qa
 replace LU1 := LU1.later qa
 replace LU2 := LU2.later qa
 replace Q := Q.trans (qa.mono Q.size)
 clear qa
 go_wp2_with fail
 generalize w4.heap.size = gU at *
 clear hV2  
 have HK := hid (fun (Y : World) (hY : Below V2.heap.size V2 Y) => And.intro (LA1.later hY) (And.intro (LA2.later hY) (And.intro (LR1.later hY) (And.intro (LR2.later hY) (And.intro (LX.later hY) (And.intro (LY.later hY) (And.intro (LS1.later hY) (And.intro (LS2.later hY) (And.intro (LS.later hY) (And.intro (LT.later hY) (And.intro (LU1.later hY) (And.intro (LU2.later hY) (LU.later hY)))))))))))))
 have HQ := hid Q
 clear Q LA1 LA2 LR1 LR2 LX LY LS1 LS2 LS LT LU1 LU2 LU
 have PK := hid (pick10_ret many HM.out 10 (by decide) (by decide))
 obtain ⟨pk0, pk1⟩ := pickN_range many 10 (by decide)
 obtain ⟨p, hp⟩ : ∃ p : Nat, pickN many 10 = (p : Int) := ⟨(pickN many 10).toNat, by omega⟩
 rw [hp] at PK pk0 pk1
 have pk9 : p ≤ 9 := by omega
 clear hp pk0 pk1 HM
 have OF := hid (fun (k : Nat) (hk : k ≤ 1000) (X : World) => (ofN_nat k ▸ refOf_ret (k : Int) (by unfold I64; omega)) X)
 go_loopw [17, 18] (fun v i wr => ∃ k : Nat, k ≤ 195 + p ∧ i = .int .i64 (k : Int) ∧ KRow wr V2.heap.size v (longL k) ∧ Below V2.heap.size V2 wr) (fun v i _ => 195 + p - (intOf i).toNat)
 case atStart => exact ⟨0, by omega, rfl, KRow.nil _ _, Below.refl _ _⟩
 case round =>
  rename_i lv0 _ _
  obtain ⟨k, hk, rfl, kr, qk⟩ := hrel
  go_wp2_with fail
  refine (PK.out _).mono ?_
  rintro _ u1 ⟨rfl, q1⟩
  replace kr := kr.later q1
  replace qk := qk.trans (q1.mono qk.size)
  clear q1
  by_cases hlt : k < 195 + p
  ·have hI : (k : Int) < 195 + (p : Int) := by omega
   go_wp2_with fail
   refine (OF.out k (by omega) _).mono ?_
   rintro _ u2 ⟨rfl, q1⟩
   replace kr := kr.later q1
   replace qk := qk.trans (q1.mono qk.size)
   clear q1
   obtain ⟨v', w', happ, hrow', hbel⟩ := push_key u2 V2.heap.size _ (longL k) kr qk.size (by rw [longL_len]; omega) ⟨0, true, k⟩ ⟨by show 0 < _; decide, by show W256 k; unfold W256; omega⟩
   have HR := hid (And.intro hrow' (And.intro (qk.trans hbel) hlt))
   clear kr hrow' hbel hlt
   go_wp2_with (first | (refine wpList_build_key2 rfl (.tmp 66) rfl k rfl ?_) | (refine wpList_build_k1 rfl (.tmp 67) rfl ⟨0, true, k⟩ rfl ?_) | (refine wpList_append_runK rfl (.tmp 64) (.tmp 68) 22 rfl _ _ _ rfl rfl happ ?_))
   go_roundw
   case rel => exact ⟨k + 1, by have := HR.out.2.2; omega, by simp, by rw [longL_succ]; exact HR.out.1, HR.out.2.1⟩
   case measure => have := HR.out.2.2; simp [intOf]; omega
  ·have hI : ¬ (k : Int) < 195 + (p : Int) := by omega
   obtain rfl : k = 195 + p := by omega
   clear hI hlt hk
   obtain ⟨lv, lc, rfl⟩ := kr.shapeK
   have LL := kr.keys (longL_ok _ (by omega))
   obtain ⟨ln, hln⟩ : ∃ n, (longL (195 + p)).length = n := ⟨_, rfl⟩
   rw [hln] at LL ⊢
   have hln2 : ln ≤ 204 := by rw [← hln, longL_len]; omega
   have HLN := hid hln2
   have HLK := hid (show (longL (195 + p)).length ≤ 204 by rw [longL_len]; omega)
   have HLO := hid (longL_ok (195 + p) (by omega))
   clear hln hln2 kr
   generalize longL (195 + p) = lk at *
   obtain ⟨LA1, LA2, LR1, LR2, LX, LY, LS1, LS2, LS, LT, LU1, LU2, LU⟩ := HK.out u1 qk
   have Q := HQ.out.trans (qk.mono HQ.out.size)
   clear HK HQ qk PK OF
   have k1 := LS.cell 0 _ rfl
   have k2 := LS.cell 1 _ rfl
   have qa := newA u1 (.cells #[.slice lv ln lc, .slice b2 p2 d2] 24)
   have LV := Has.new u1 24 #[.slice lv ln lc, .slice b2 p2 d2]
   obtain ⟨V3, hV3⟩ : ∃ V3, u1.alloc (.cells #[.slice lv ln lc, .slice b2 p2 d2] 24) = V3 := ⟨_, rfl⟩
   rw [hV3] at qa LV
   replace LA1 := LA1.later qa
   replace LA2 := LA2.later qa
   replace LR1 := LR1.later qa
   replace LR2 := LR2.later qa
   replace LX := LX.later qa
   replace LY := LY.later qa
   replace LS1 := LS1.later qa
   replace LS2 := LS2.later qa
   replace LS := LS.later qa
   replace LT := LT.later qa
   replace LU1 := LU1.later qa
   replace LU2 := LU2.later qa
   replace LU := LU.later qa
   replace LL := LL.later qa
   replace Q := Q.trans (qa.mono Q.size)
   clear qa
   have k3 := LS.cell 0 _ rfl
   have k4 := LS.cell 1 _ rfl
   go_wp2_with fail
   generalize u1.heap.size = gV at *
   clear hV3 k3 k4 k1 k2
   have KX := hid (show ∀ z : World, Grows V3 z → (loadVar 31 ⟨w.heap.size + 1, 0, none⟩).run Try.prog z = .ok (.agg (kyC x)) z from fun z hz => by obtain ⟨q, rfl⟩ := hz; exact (LX.later q.below).kyLoad)
   have KY := hid (show ∀ z : World, Grows V3 z → (loadVar 31 ⟨w.heap.size + 1 + 1, 0, none⟩).run Try.prog z = .ok (.agg (kyC y)) z from fun z hz => by obtain ⟨q, rfl⟩ := hz; exact (LY.later q.below).kyLoad)
   have O1 := hid (fun z : Ext V3 => Ext.atK (korder_any z.w x y HX.out HY.out))
   have O2 := hid (fun z : Ext V3 => Ext.atK (rkorder_any z.w x y HX.out HY.out))
   refine wp_region_quietL (C := Grows V3) hmx (by kernel_rfl) (grows_refl V3) ?_
   repeat (first | (with_reducible refine wpQuiet_load rfl 31 _ rfl _ rfl _ KX.out ?_; simp only [Act.put, sT, sS, sZ]) | (with_reducible refine wpQuiet_load rfl 31 _ rfl _ rfl _ KY.out ?_; simp only [Act.put, sT, sS, sZ]) | (go_big_quiet_step (first | (with_reducible exact O1.out _) | (with_reducible exact O2.out _))))
   refine wpQuiet_nil ?_
   rintro _ ⟨z5, rfl⟩
   clear KX KY O1 O2
   have qa := z5.below
   replace LA1 := LA1.later qa
   replace LA2 := LA2.later qa
   replace LR1 := LR1.later qa
   replace LR2 := LR2.later qa
   replace LX := LX.later qa
   replace LY := LY.later qa
   replace LS1 := LS1.later qa
   replace LS2 := LS2.later qa
   replace LS := LS.later qa
   replace LT := LT.later qa
   replace LU1 := LU1.later qa
   replace LU2 := LU2.later qa
   replace LU := LU.later qa
   replace LL := LL.later qa
   replace LV := LV.later qa
   replace Q := Q.trans (qa.mono Q.size)
   clear qa
   generalize z5.w = w5 at *
   go_wp2_with fail
   have HLA := hid (fun (Y : World) (hY : Below w5.heap.size w5 Y) => And.intro (LR1.later hY) (And.intro (LR2.later hY) (And.intro (LT.later hY) (And.intro (LL.later hY) (LX.later hY)))))
   refine Late.wp_region_ghost [some (.pointer (some ⟨gT, 0, none⟩)), some (.slice (uptoK a1 c1) m1 c1), some (.pointer (some ⟨gT, 1, none⟩)), some (.slice (uptoK a2 c2) m2 c2), some (.agg #[.slice (uptoK a1 c1) m1 c1, .slice (uptoK a2 c2) m2 c2]), some (v1), none, some (v2), none, none, some (v2), none, some (.slice lv ln lc), none, some (.agg (kyC x)), none, none, none, none, some (.int .i64 3), some (.int .i64 0)] [[], [0], [], [2], [0, 1, 2, 3], [], [5], [], [5, 6, 7], [5, 6, 7, 8], [], [5, 6, 7, 8, 10], [], [5, 6, 7, 8, 10, 11, 12], [], [14], [5, 6, 7, 8, 10, 11, 12, 13, 14, 15], [5, 6, 7, 8, 10, 11, 12, 13, 14, 15, 16], [0, 1, 2, 3, 4, 5, 6, 7, 8, 9, 10, 11, 12, 13, 14, 15, 16, 17], [0, 1, 2, 3, 4, 5, 6, 7, 8, 9, 10, 11, 12, 13, 14, 15, 16, 17, 18], []] (UA w5 (keysN z1) (keysN z2) lk x (.slice (uptoK a1 c1) m1 c1) (.slice (uptoK a2 c2) m2 c2)) hmx (by kernel_rfl) (by kernel_rfl) ?_ ?_ ?_ ?_
   ·exact fun f g wa wb h hb => h.later hb
   ·exact fun f f' g g' wa h hu => hu.same fun j hj => h j (by rcases hj with rfl | rfl | rfl | rfl | rfl | rfl | rfl | rfl | rfl <;> rfl)
   ·exact UA.later (show UA w5 (keysN z1) (keysN z2) lk x (.slice (uptoK a1 c1) m1 c1) (.slice (uptoK a2 c2) m2 c2) (fun _ => false) (fun _ => undef) w5 from ⟨Below.refl _ _, ⟨fun h => absurd h (by simp), fun h => absurd h (by simp), fun h => absurd h (by simp), fun h => absurd h (by simp)⟩, fun _ => ⟨fun h => absurd h (by simp), fun h => absurd h (by simp), fun h => absurd h (by simp)⟩, fun h => absurd h (by simp), fun h => absurd h (by simp), fun h => absurd h (by simp), fun h => absurd h (by simp), fun h => absurd h (by simp), fun h => absurd h (by simp)⟩) (Below.refl _ _).drew
   rintro f g y6 hU Dn
   refine GW.known _ rfl (fun hd hf => ?_) ?_
   ·clear hU Dn hd
    go_wp2_with fail
    exact ⟨rfl, rfl, Below.refl _ _⟩
   simp only [Act.put, sT, sS, sZ]
   refine GW.known _ rfl (fun hd hf => ?_) ?_
   ·have c := (HLA.out y6 hU.1).2.2.1.cell 0 _ rfl
    clear hU Dn hd
    go_wp2_with fail
    exact ⟨rfl, rfl, Below.refl _ _⟩
   simp only [Act.put, sT, sS, sZ]
   refine GW.known _ rfl (fun hd hf => ?_) ?_
   ·clear hU Dn hd
    go_wp2_with fail
    exact ⟨rfl, rfl, Below.refl _ _⟩
   simp only [Act.put, sT, sS, sZ]
   refine GW.known _ rfl (fun hd hf => ?_) ?_
   ·have c := (HLA.out y6 hU.1).2.2.1.cell 1 _ rfl
    clear hU Dn hd
    go_wp2_with fail
    exact ⟨rfl, rfl, Below.refl _ _⟩
   simp only [Act.put, sT, sS, sZ]
   refine GW.known _ rfl (fun hd hf => ?_) ?_
   ·clear hU Dn hd
    go_wp2_with fail
    exact ⟨rfl, rfl, Below.refl _ _⟩
   simp only [Act.put, sT, sS, sZ]
   refine GW.known _ rfl (fun hd hf => ?_) ?_
   ·clear hU Dn hd
    go_wp2_with fail
    exact ⟨rfl, rfl, Below.refl _ _⟩
   simp only [Act.put, sT, sS, sZ]
   refine GW.open rfl (fun hd hf => ?_) ?_
   ·skip
    have f9 : f 9 = false := (by cases h : f 9 with | false => rfl | true => exact absurd (Dn 9 h 6 (by decide)) (by rw [hf]; simp))
    have f13 : f 13 = false := (by cases h : f 13 with | false => rfl | true => exact absurd (Dn 13 h 6 (by decide)) (by rw [hf]; simp))
    have f16 : f 16 = false := (by cases h : f 16 with | false => rfl | true => exact absurd (Dn 16 h 6 (by decide)) (by rw [hf]; simp))
    have f17 : f 17 = false := (by cases h : f 17 with | false => rfl | true => exact absurd (Dn 17 h 6 (by decide)) (by rw [hf]; simp))
    have f18 : f 18 = false := (by cases h : f 18 with | false => rfl | true => exact absurd (Dn 18 h 6 (by decide)) (by rw [hf]; simp))
    have raw := (HLA.out y6 hU.1).1
    go_wp2_with fail
    refine (keys_any y6 _ z1 raw).mono ?_
    rintro _ w6 ⟨v', rfl, kr, q6⟩
    have K := hU.n6 q6 f9 f13 f16 f17 f18 (kr.keys (keysN_ok z1))
    clear hU Dn hd kr
    go_wp2
    exact ⟨rfl, K⟩
   simp only [Act.put, sT, sS, sZ]
   refine GW.known _ rfl (fun hd hf => ?_) ?_
   ·clear hU Dn hd
    go_wp2_with fail
    exact ⟨rfl, rfl, Below.refl _ _⟩
   simp only [Act.put, sT, sS, sZ]
   refine GW.open rfl (fun hd hf => ?_) ?_
   ·skip
    have f9 : f 9 = false := (by cases h : f 9 with | false => rfl | true => exact absurd (Dn 9 h 8 (by decide)) (by rw [hf]; simp))
    have f13 : f 13 = false := (by cases h : f 13 with | false => rfl | true => exact absurd (Dn 13 h 8 (by decide)) (by rw [hf]; simp))
    have f16 : f 16 = false := (by cases h : f 16 with | false => rfl | true => exact absurd (Dn 16 h 8 (by decide)) (by rw [hf]; simp))
    have f17 : f 17 = false := (by cases h : f 17 with | false => rfl | true => exact absurd (Dn 17 h 8 (by decide)) (by rw [hf]; simp))
    have f18 : f 18 = false := (by cases h : f 18 with | false => rfl | true => exact absurd (Dn 18 h 8 (by decide)) (by rw [hf]; simp))
    have raw := (HLA.out y6 hU.1).2.1
    go_wp2_with fail
    refine (keys_any y6 _ z2 raw).mono ?_
    rintro _ w6 ⟨v', rfl, kr, q6⟩
    have K := hU.n8 q6 f9 f13 f16 f17 f18 (kr.keys (keysN_ok z2))
    clear hU Dn hd kr
    go_wp2
    exact ⟨rfl, K⟩
   simp only [Act.put, sT, sS, sZ]
   refine GW.open rfl (fun hd hf => ?_) ?_
   ·have K := hU.n9
    obtain ⟨x1, x2, x3, e6⟩ := hU.2.1.1 (hd 6 (by decide))
    obtain ⟨x4, x5, x7, e8⟩ := hU.2.1.2.1 (hd 8 (by decide))
    clear hU Dn hd
    rw [e6, e8] at K ⊢
    go_wp2
    exact ⟨rfl, K⟩
   simp only [Act.put, sT, sS, sZ]
   refine GW.known _ rfl (fun hd hf => ?_) ?_
   ·clear hU Dn hd
    go_wp2_with fail
    exact ⟨rfl, rfl, Below.refl _ _⟩
   simp only [Act.put, sT, sS, sZ]
   refine GW.open rfl (fun hd hf => ?_) ?_
   ·skip
    have f13 : f 13 = false := (by cases h : f 13 with | false => rfl | true => exact absurd (Dn 13 h 11 (by decide)) (by rw [hf]; simp))
    have f16 : f 16 = false := (by cases h : f 16 with | false => rfl | true => exact absurd (Dn 16 h 11 (by decide)) (by rw [hf]; simp))
    have f17 : f 17 = false := (by cases h : f 17 with | false => rfl | true => exact absurd (Dn 17 h 11 (by decide)) (by rw [hf]; simp))
    have f18 : f 18 = false := (by cases h : f 18 with | false => rfl | true => exact absurd (Dn 18 h 11 (by decide)) (by rw [hf]; simp))
    have raw := (HLA.out y6 hU.1).2.1
    go_wp2_with fail
    refine (keys_any y6 _ z2 raw).mono ?_
    rintro _ w6 ⟨v', rfl, kr, q6⟩
    have K := hU.n11 q6 f13 f16 f17 f18 (kr.keys (keysN_ok z2))
    clear hU Dn hd kr
    go_wp2
    exact ⟨rfl, K⟩
   simp only [Act.put, sT, sS, sZ]
   refine GW.known _ rfl (fun hd hf => ?_) ?_
   ·clear hU Dn hd
    go_wp2_with fail
    exact ⟨rfl, rfl, Below.refl _ _⟩
   simp only [Act.put, sT, sS, sZ]
   refine GW.open rfl (fun hd hf => ?_) ?_
   ·skip
    have f16 : f 16 = false := (by cases h : f 16 with | false => rfl | true => exact absurd (Dn 16 h 13 (by decide)) (by rw [hf]; simp))
    have f17 : f 17 = false := (by cases h : f 17 with | false => rfl | true => exact absurd (Dn 17 h 13 (by decide)) (by rw [hf]; simp))
    have f18 : f 18 = false := (by cases h : f 18 with | false => rfl | true => exact absurd (Dn 18 h 13 (by decide)) (by rw [hf]; simp))
    obtain ⟨v', w', happ, hrow, _, hbel⟩ := append_keys y6 y6.heap.size (.slice none 0 0) [] (KRow.nil _ _) (Nat.le_refl _) _ _ (HLA.out y6 hU.1).2.2.2.1 (by simp; have := HLK.out; omega)
    rw [List.nil_append] at hrow
    have K := hU.n13 hbel (hd 6 (by decide)) (hd 8 (by decide)) (hd 11 (by decide)) hf f16 f17 f18 hrow
    clear hU Dn hd hrow hbel
    refine wpList_append_runK rfl (.const (.slice none 0 0)) (.tmp 93) 22 rfl _ _ _ rfl rfl happ ?_
    go_wp2
    exact ⟨rfl, K⟩
   simp only [Act.put, sT, sS, sZ]
   refine GW.known _ rfl (fun hd hf => ?_) ?_
   ·have c := (HLA.out y6 hU.1).2.2.2.2.kyLoad
    clear hU Dn hd
    go_wp2_with (refine wpList_load_known rfl _ (.tmp 7) rfl _ rfl _ c ?_)
    exact ⟨rfl, rfl, Below.refl _ _⟩
   simp only [Act.put, sT, sS, sZ]
   refine GW.open rfl (fun hd hf => ?_) ?_
   ·have km := keys_made y6 [x] (by intro z hz; simp at hz; subst hz; exact HX.out) (by simp)
    have qa := newA y6 (.cells (flatKy [x]).toArray 31)
    have K := hU.n15 qa km
    clear hU Dn hd km qa
    refine wpList_build_k1 rfl (.tmp 95) rfl x rfl ?_
    go_wp2
    exact ⟨rfl, K⟩
   simp only [Act.put, sT, sS, sZ]
   refine GW.open rfl (fun hd hf => ?_) ?_
   ·skip
    have f17 : f 17 = false := (by cases h : f 17 with | false => rfl | true => exact absurd (Dn 17 h 16 (by decide)) (by rw [hf]; simp))
    have f18 : f 18 = false := (by cases h : f 18 with | false => rfl | true => exact absurd (Dn 18 h 16 (by decide)) (by rw [hf]; simp))
    obtain ⟨Y, hR, k6, k8, k11, hY, krow⟩ := hU.2.2.2.1 (hd 13 (by decide)) hf
    obtain ⟨v', w', happ, hrow, _, hbel⟩ := append_keys y6 Y.heap.size (g 13) lk krow hY.size (g 15) [x] (hU.2.2.2.2.2.1 (hd 15 (by decide)) hf) (by simp; have := HLK.out; omega)
    have K := hU.n16 (hd 13 (by decide)) f17 f18 hR k6 k8 k11 hY hbel (hrow.keys (fun z hz => by
     rcases List.mem_append.1 hz with h | h
     ·exact HLO.out z h
     ·simp at h; subst h; exact HX.out))
    clear hU Dn hd hrow hbel k6 k8 k11 hY krow hR
    refine wpList_append_runK rfl (.tmp 94) (.tmp 96) 22 rfl _ _ _ rfl rfl happ ?_
    go_wp2
    exact ⟨rfl, K⟩
   simp only [Act.put, sT, sS, sZ]
   refine GW.open rfl (fun hd hf => ?_) ?_
   ·have K := hU.n17
    obtain ⟨x1, x2, x3, e11⟩ := hU.2.1.2.2.1 (hd 11 (by decide))
    obtain ⟨x4, x5, x7, e16⟩ := hU.2.1.2.2.2 (hd 16 (by decide))
    clear hU Dn hd
    rw [e11, e16] at K ⊢
    go_wp2
    exact ⟨rfl, K⟩
   simp only [Act.put, sT, sS, sZ]
   refine GW.open rfl (fun hd hf => ?_) ?_
   ·have K := fun w' hb B hv => hU.n18 (w' := w') hb (B := B) hv
    have e9 := hU.2.2.2.2.2.2.1 (hd 9 (by decide))
    have e17 := hU.2.2.2.2.2.2.2.1 (hd 17 (by decide))
    obtain ⟨x1, x2, x3, e6⟩ := hU.2.1.1 (hd 6 (by decide))
    obtain ⟨x4, x5, x7, e8⟩ := hU.2.1.2.1 (hd 8 (by decide))
    obtain ⟨x8, x9, x10, e11⟩ := hU.2.1.2.2.1 (hd 11 (by decide))
    obtain ⟨x11, x12, x13, e16⟩ := hU.2.1.2.2.2 (hd 16 (by decide))
    clear hU Dn hd
    rw [e6, e8, e11, e16] at K
    rw [e9, e17, e6, e8, e11, e16]
    have K := hid (K _ (newA y6 (.cells #[.slice (uptoK a1 c1) m1 c1, .slice (uptoK a2 c2) m2 c2, .slice x1 x2 x3, .slice x4 x5 x7, .slice x8 x9 x10, .slice x11 x12 x13] 38)) _ (Has.new _ _ _))
    clear e9 e17 e6 e8 e11 e16
    go_wp2
    exact ⟨rfl, K.out⟩
   simp only [Act.put, sT, sS, sZ]
   refine GW.known _ rfl (fun hd hf => ?_) ?_
   ·obtain ⟨B, e18, _⟩ := hU.2.2.2.2.2.2.2.2 (hd 18 (by decide))
    rw [e18]
    clear hU Dn hd e18
    go_wp2_with fail
    exact ⟨rfl, rfl, Below.refl _ _⟩
   simp only [Act.put, sT, sS, sZ]
   refine GW.known _ rfl (fun hd hf => ?_) ?_
   ·clear hU Dn hd
    go_wp2_with fail
    exact ⟨rfl, rfl, Below.refl _ _⟩
   simp only [Act.put, sT, sS, sZ]
   refine GW.nil (fun hall => ?_)
   obtain ⟨gP, e18, LP⟩ := hU.2.2.2.2.2.2.2.2 (hall 18 (by omega))
   obtain ⟨LP0, LP1, LP2, LP3⟩ := hU.2.2.2.2.1 (hall 16 (by omega))
   have qa := hU.1
   rw [e18]
   clear hU Dn hall HLA e18
   replace LA1 := LA1.later qa
   replace LA2 := LA2.later qa
   replace LR1 := LR1.later qa
   replace LR2 := LR2.later qa
   replace LX := LX.later qa
   replace LY := LY.later qa
   replace LS1 := LS1.later qa
   replace LS2 := LS2.later qa
   replace LS := LS.later qa
   replace LT := LT.later qa
   replace LU1 := LU1.later qa
   replace LU2 := LU2.later qa
   replace LU := LU.later qa
   replace LL := LL.later qa
   replace LV := LV.later qa
   replace Q := Q.trans (qa.mono Q.size)
   clear qa
   obtain ⟨o0, r0, e0, _⟩ := LP0.shape
   obtain ⟨o1, r1, e1, _⟩ := LP1.shape
   obtain ⟨o2, r2, e2, _⟩ := LP2.shape
   obtain ⟨o3, r3, e3, _⟩ := LP3.shape
   rw [e0] at LP0 LP
   rw [e1] at LP1 LP
   rw [e2] at LP2 LP
   rw [e3] at LP3 LP
   clear e0 e1 e2 e3
   go_wp2
   obtain ⟨u0, hu0⟩ : ∃ n, (keysN z1).length = n := ⟨_, rfl⟩
   obtain ⟨u1, hu1⟩ : ∃ n, (keysN z2).length = n := ⟨_, rfl⟩
   obtain ⟨u3, hu3⟩ : ∃ n, (lk ++ [x]).length = n := ⟨_, rfl⟩
   have HZ1 := hid (keysN_len z1)
   have HZ2 := hid (keysN_len z2)
   have HZ3 := hid (show (lk ++ [x]).length ≤ 205 by rw [List.length_append]; have := HLK.out; simp; omega)
   rw [hu0] at LP0 LP
   rw [hu1] at LP1 LP2 LP
   rw [hu3] at LP3 LP
   clear hu0 hu1 hu3
   generalize lk ++ [x] = lx at *
   clear LR1 LR2
   refine wp_loop_rounds 4 ?_
   rw [rounds_succ]
   obtain ⟨ma0, hma⟩ : ∃ l, (makeM (ta) (tb)).1 = l := ⟨_, rfl⟩
   obtain ⟨mb0, hmb⟩ : ∃ l, (makeM (ta) (tb)).2.1 = l := ⟨_, rfl⟩
   obtain ⟨mc0, hmc⟩ : ∃ l, (makeM (ta) (tb)).2.2 = l := ⟨_, rfl⟩
   have MK := hid (fun (Y : World) (i1 : KeysAt Y (.slice (uptoK a1 c1) m1 c1) (ta)) (i2 : KeysAt Y (.slice (uptoK a2 c2) m2 c2) (tb)) => (show Calls Try.prog 11 #[.slice (uptoK a1 c1) m1 c1, .slice (uptoK a2 c2) m2 c2] Y (SetsP Y ma0 mb0 mc0) from by
    have h := make_any Y _ _ _ _ i1 i2 (Nat.le_trans HNL.out.1 (by omega)) (Nat.le_trans HNL.out.2 (by omega))
    rw [hma, hmb, hmc] at h
    exact h).mono fun e w' h => h.ex)
   have RK := hid (fun (Y : World) (i1 : KeysAt Y (.slice (uptoK a1 c1) m1 c1) (ta)) (i2 : KeysAt Y (.slice (uptoK a2 c2) m2 c2) (tb)) => (show Calls Try.prog 12 #[.slice (uptoK a1 c1) m1 c1, .slice (uptoK a2 c2) m2 c2] Y (SetsP Y ma0 mb0 mc0) from by
    have h := rmakeG_any Y _ _ _ _ i1 i2 (Nat.le_trans HNL.out.1 (by omega)) (Nat.le_trans HNL.out.2 (by omega))
    rw [hma, hmb, hmc] at h
    exact h).mono fun e w' h => h.ex)
   clear hma hmb hmc
   have k5 := LP.cell 0 _ rfl
   have k6 := LP.cell 1 _ rfl
   have k7 := LP.cell 2 _ rfl
   have k8 := LP.cell 3 _ rfl
   have k9 := LP.cell 4 _ rfl
   have k10 := LP.cell 5 _ rfl
   have qa := newA y6 (.cells #[.slice (uptoK a1 c1) m1 c1, .slice (uptoK a2 c2) m2 c2] 38)
   have LB := Has.new y6 38 #[.slice (uptoK a1 c1) m1 c1, .slice (uptoK a2 c2) m2 c2]
   obtain ⟨V4, hV4⟩ : ∃ V4, y6.alloc (.cells #[.slice (uptoK a1 c1) m1 c1, .slice (uptoK a2 c2) m2 c2] 38) = V4 := ⟨_, rfl⟩
   rw [hV4] at qa LB
   replace LA1 := LA1.later qa
   replace LA2 := LA2.later qa
   replace LX := LX.later qa
   replace LY := LY.later qa
   replace LS1 := LS1.later qa
   replace LS2 := LS2.later qa
   replace LS := LS.later qa
   replace LT := LT.later qa
   replace LU1 := LU1.later qa
   replace LU2 := LU2.later qa
   replace LU := LU.later qa
   replace LL := LL.later qa
   replace LV := LV.later qa
   replace LP0 := LP0.later qa
   replace LP1 := LP1.later qa
   replace LP2 := LP2.later qa
   replace LP3 := LP3.later qa
   replace LP := LP.later qa
   replace Q := Q.trans (qa.mono Q.size)
   clear qa
   have k11 := LP.cell 0 _ rfl
   have k12 := LP.cell 1 _ rfl
   have k13 := LP.cell 2 _ rfl
   have k14 := LP.cell 3 _ rfl
   have k15 := LP.cell 4 _ rfl
   have k16 := LP.cell 5 _ rfl
   have k17 := LB.cell 0 _ rfl
   have k18 := LB.cell 1 _ rfl
   go_wp2_with fail
   generalize y6.heap.size = gB0 at *
   clear hV4 k11 k12 k13 k14 k15 k16 k17 k18 k5 k6 k7 k8 k9 k10
   refine (MK.out V4 LA1 LA2).mono ?_
   rintro _ mw0 ⟨Mx, My, rfl, LM1, LM2, q1⟩
   replace LA1 := LA1.later q1
   replace LA2 := LA2.later q1
   replace LX := LX.later q1
   replace LY := LY.later q1
   replace LS1 := LS1.later q1
   replace LS2 := LS2.later q1
   replace LS := LS.later q1
   replace LT := LT.later q1
   replace LU1 := LU1.later q1
   replace LU2 := LU2.later q1
   replace LU := LU.later q1
   replace LL := LL.later q1
   replace LV := LV.later q1
   replace LP0 := LP0.later q1
   replace LP1 := LP1.later q1
   replace LP2 := LP2.later q1
   replace LP3 := LP3.later q1
   replace LP := LP.later q1
   replace LB := LB.later q1
   replace Q := Q.trans (q1.mono Q.size)
   clear q1 MK
   obtain ⟨Mp0, Mq0, rfl, _, _⟩ := LM1.shape
   obtain ⟨Mr0, Ms0, rfl, _, _⟩ := LM2.shape
   have k19 := LB.cell 0 _ rfl
   have k20 := LB.cell 1 _ rfl
   have qa := newA mw0 (.cells #[.slice Mp0 ma0.length Mq0, .slice Mr0 mb0.length Ms0] 24)
   have LM := Has.new mw0 24 #[.slice Mp0 ma0.length Mq0, .slice Mr0 mb0.length Ms0]
   obtain ⟨V5, hV5⟩ : ∃ V5, mw0.alloc (.cells #[.slice Mp0 ma0.length Mq0, .slice Mr0 mb0.length Ms0] 24) = V5 := ⟨_, rfl⟩
   rw [hV5] at qa LM
   replace LA1 := LA1.later qa
   replace LA2 := LA2.later qa
   replace LX := LX.later qa
   replace LY := LY.later qa
   replace LS1 := LS1.later qa
   replace LS2 := LS2.later qa
   replace LS := LS.later qa
   replace LT := LT.later qa
   replace LU1 := LU1.later qa
   replace LU2 := LU2.later qa
   replace LU := LU.later qa
   replace LL := LL.later qa
   replace LV := LV.later qa
   replace LP0 := LP0.later qa
   replace LP1 := LP1.later qa
   replace LP2 := LP2.later qa
   replace LP3 := LP3.later qa
   replace LP := LP.later qa
   replace LB := LB.later qa
   replace LM1 := LM1.later qa
   replace LM2 := LM2.later qa
   replace Q := Q.trans (qa.mono Q.size)
   clear qa
   have k21 := LB.cell 0 _ rfl
   have k22 := LB.cell 1 _ rfl
   have k23 := LM.cell 0 _ rfl
   have k24 := LM.cell 1 _ rfl
   go_wp2_with fail
   generalize mw0.heap.size = gM0 at *
   clear hV5 k21 k22 k23 k24 k19 k20
   refine (RK.out V5 LA1 LA2).mono ?_
   rintro _ nw0 ⟨Nx, Ny, rfl, LN1, LN2, q1⟩
   replace LA1 := LA1.later q1
   replace LA2 := LA2.later q1
   replace LX := LX.later q1
   replace LY := LY.later q1
   replace LS1 := LS1.later q1
   replace LS2 := LS2.later q1
   replace LS := LS.later q1
   replace LT := LT.later q1
   replace LU1 := LU1.later q1
   replace LU2 := LU2.later q1
   replace LU := LU.later q1
   replace LL := LL.later q1
   replace LV := LV.later q1
   replace LP0 := LP0.later q1
   replace LP1 := LP1.later q1
   replace LP2 := LP2.later q1
   replace LP3 := LP3.later q1
   replace LP := LP.later q1
   replace LB := LB.later q1
   replace LM1 := LM1.later q1
   replace LM2 := LM2.later q1
   replace LM := LM.later q1
   replace Q := Q.trans (q1.mono Q.size)
   clear q1 RK
   obtain ⟨Np0, Nq0, rfl, _, _⟩ := LN1.shape
   obtain ⟨Nr0, Ns0, rfl, _, _⟩ := LN2.shape
   have k25 := LM.cell 0 _ rfl
   have k26 := LM.cell 1 _ rfl
   have qa := newA nw0 (.cells #[.slice Np0 ma0.length Nq0, .slice Nr0 mb0.length Ns0] 24)
   have LN := Has.new nw0 24 #[.slice Np0 ma0.length Nq0, .slice Nr0 mb0.length Ns0]
   obtain ⟨V6, hV6⟩ : ∃ V6, nw0.alloc (.cells #[.slice Np0 ma0.length Nq0, .slice Nr0 mb0.length Ns0] 24) = V6 := ⟨_, rfl⟩
   rw [hV6] at qa LN
   replace LA1 := LA1.later qa
   replace LA2 := LA2.later qa
   replace LX := LX.later qa
   replace LY := LY.later qa
   replace LS1 := LS1.later qa
   replace LS2 := LS2.later qa
   replace LS := LS.later qa
   replace LT := LT.later qa
   replace LU1 := LU1.later qa
   replace LU2 := LU2.later qa
   replace LU := LU.later qa
   replace LL := LL.later qa
   replace LV := LV.later qa
   replace LP0 := LP0.later qa
   replace LP1 := LP1.later qa
   replace LP2 := LP2.later qa
   replace LP3 := LP3.later qa
   replace LP := LP.later qa
   replace LB := LB.later qa
   replace LM1 := LM1.later qa
   replace LM2 := LM2.later qa
   replace LM := LM.later qa
   replace LN1 := LN1.later qa
   replace LN2 := LN2.later qa
   replace Q := Q.trans (qa.mono Q.size)
   clear qa
   have k27 := LM.cell 0 _ rfl
   have k28 := LM.cell 1 _ rfl
   have k29 := LN.cell 0 _ rfl
   have k30 := LN.cell 1 _ rfl
   go_wp2_with fail
   generalize nw0.heap.size = gN0 at *
   clear hV6 k27 k28 k29 k30 k25 k26
   have SK := hid (show Calls Try.prog 13 #[.agg #[.slice Mp0 ma0.length Mq0, .slice Mr0 mb0.length Ms0], .agg #[.slice Np0 ma0.length Nq0, .slice Nr0 mb0.length Ns0]] V6 (fun e w' => e = .returned (.bool true) ∧ Below V6.heap.size V6 w') from by
    have h := ksets_any V6 _ _ ma0 mb0 ma0 mb0 ⟨_, _, rfl, LM1, LM2⟩ ⟨_, _, rfl, LN1, LN2⟩
    rw [show (decide (ma0 = ma0) && decide (mb0 = mb0)) = true by simp] at h
    exact h)
   refine SK.out.mono ?_
   rintro _ sw0 ⟨rfl, q1⟩
   replace LA1 := LA1.later q1
   replace LA2 := LA2.later q1
   replace LX := LX.later q1
   replace LY := LY.later q1
   replace LS1 := LS1.later q1
   replace LS2 := LS2.later q1
   replace LS := LS.later q1
   replace LT := LT.later q1
   replace LU1 := LU1.later q1
   replace LU2 := LU2.later q1
   replace LU := LU.later q1
   replace LL := LL.later q1
   replace LV := LV.later q1
   replace LP0 := LP0.later q1
   replace LP1 := LP1.later q1
   replace LP2 := LP2.later q1
   replace LP3 := LP3.later q1
   replace LP := LP.later q1
   replace LB := LB.later q1
   replace LM1 := LM1.later q1
   replace LM2 := LM2.later q1
   replace LM := LM.later q1
   replace LN1 := LN1.later q1
   replace LN2 := LN2.later q1
   replace LN := LN.later q1
   replace Q := Q.trans (q1.mono Q.size)
   clear q1 SK
   clear LB LM LN LM1 LM2 LN1 LN2
   have k31 := LP.cell 0 _ rfl
   have k32 := LP.cell 1 _ rfl
   have k33 := LP.cell 2 _ rfl
   have k34 := LP.cell 3 _ rfl
   have k35 := LP.cell 4 _ rfl
   have k36 := LP.cell 5 _ rfl
   go_wp2
   rw [rounds_succ]
   clear k31 k32 k33 k34 k35 k36
   obtain ⟨ma1, hma⟩ : ∃ l, (makeM (keysN z1) (keysN z2)).1 = l := ⟨_, rfl⟩
   obtain ⟨mb1, hmb⟩ : ∃ l, (makeM (keysN z1) (keysN z2)).2.1 = l := ⟨_, rfl⟩
   obtain ⟨mc1, hmc⟩ : ∃ l, (makeM (keysN z1) (keysN z2)).2.2 = l := ⟨_, rfl⟩
   have MK := hid (fun (Y : World) (i1 : KeysAt Y (.slice o0 u0 r0) (keysN z1)) (i2 : KeysAt Y (.slice o1 u1 r1) (keysN z2)) => (show Calls Try.prog 11 #[.slice o0 u0 r0, .slice o1 u1 r1] Y (SetsP Y ma1 mb1 mc1) from by
    have h := make_any Y _ _ _ _ i1 i2 (Nat.le_trans HZ1.out (by omega)) (Nat.le_trans HZ2.out (by omega))
    rw [hma, hmb, hmc] at h
    exact h).mono fun e w' h => h.ex)
   have RK := hid (fun (Y : World) (i1 : KeysAt Y (.slice o0 u0 r0) (keysN z1)) (i2 : KeysAt Y (.slice o1 u1 r1) (keysN z2)) => (show Calls Try.prog 12 #[.slice o0 u0 r0, .slice o1 u1 r1] Y (SetsP Y ma1 mb1 mc1) from by
    have h := rmakeG_any Y _ _ _ _ i1 i2 (Nat.le_trans HZ1.out (by omega)) (Nat.le_trans HZ2.out (by omega))
    rw [hma, hmb, hmc] at h
    exact h).mono fun e w' h => h.ex)
   clear hma hmb hmc
   have k37 := LP.cell 0 _ rfl
   have k38 := LP.cell 1 _ rfl
   have k39 := LP.cell 2 _ rfl
   have k40 := LP.cell 3 _ rfl
   have k41 := LP.cell 4 _ rfl
   have k42 := LP.cell 5 _ rfl
   have qa := newA sw0 (.cells #[.slice o0 u0 r0, .slice o1 u1 r1] 38)
   have LB := Has.new sw0 38 #[.slice o0 u0 r0, .slice o1 u1 r1]
   obtain ⟨V7, hV7⟩ : ∃ V7, sw0.alloc (.cells #[.slice o0 u0 r0, .slice o1 u1 r1] 38) = V7 := ⟨_, rfl⟩
   rw [hV7] at qa LB
   replace LA1 := LA1.later qa
   replace LA2 := LA2.later qa
   replace LX := LX.later qa
   replace LY := LY.later qa
   replace LS1 := LS1.later qa
   replace LS2 := LS2.later qa
   replace LS := LS.later qa
   replace LT := LT.later qa
   replace LU1 := LU1.later qa
   replace LU2 := LU2.later qa
   replace LU := LU.later qa
   replace LL := LL.later qa
   replace LV := LV.later qa
   replace LP0 := LP0.later qa
   replace LP1 := LP1.later qa
   replace LP2 := LP2.later qa
   replace LP3 := LP3.later qa
   replace LP := LP.later qa
   replace Q := Q.trans (qa.mono Q.size)
   clear qa
   have k43 := LP.cell 0 _ rfl
   have k44 := LP.cell 1 _ rfl
   have k45 := LP.cell 2 _ rfl
   have k46 := LP.cell 3 _ rfl
   have k47 := LP.cell 4 _ rfl
   have k48 := LP.cell 5 _ rfl
   have k49 := LB.cell 0 _ rfl
   have k50 := LB.cell 1 _ rfl
   go_wp2_with fail
   generalize sw0.heap.size = gB1 at *
   clear hV7 k43 k44 k45 k46 k47 k48 k49 k50 k37 k38 k39 k40 k41 k42
   refine (MK.out V7 LP0 LP1).mono ?_
   rintro _ mw1 ⟨Mx, My, rfl, LM1, LM2, q1⟩
   replace LA1 := LA1.later q1
   replace LA2 := LA2.later q1
   replace LX := LX.later q1
   replace LY := LY.later q1
   replace LS1 := LS1.later q1
   replace LS2 := LS2.later q1
   replace LS := LS.later q1
   replace LT := LT.later q1
   replace LU1 := LU1.later q1
   replace LU2 := LU2.later q1
   replace LU := LU.later q1
   replace LL := LL.later q1
   replace LV := LV.later q1
   replace LP0 := LP0.later q1
   replace LP1 := LP1.later q1
   replace LP2 := LP2.later q1
   replace LP3 := LP3.later q1
   replace LP := LP.later q1
   replace LB := LB.later q1
   replace Q := Q.trans (q1.mono Q.size)
   clear q1 MK
   obtain ⟨Mp1, Mq1, rfl, _, _⟩ := LM1.shape
   obtain ⟨Mr1, Ms1, rfl, _, _⟩ := LM2.shape
   have k51 := LB.cell 0 _ rfl
   have k52 := LB.cell 1 _ rfl
   have qa := newA mw1 (.cells #[.slice Mp1 ma1.length Mq1, .slice Mr1 mb1.length Ms1] 24)
   have LM := Has.new mw1 24 #[.slice Mp1 ma1.length Mq1, .slice Mr1 mb1.length Ms1]
   obtain ⟨V8, hV8⟩ : ∃ V8, mw1.alloc (.cells #[.slice Mp1 ma1.length Mq1, .slice Mr1 mb1.length Ms1] 24) = V8 := ⟨_, rfl⟩
   rw [hV8] at qa LM
   replace LA1 := LA1.later qa
   replace LA2 := LA2.later qa
   replace LX := LX.later qa
   replace LY := LY.later qa
   replace LS1 := LS1.later qa
   replace LS2 := LS2.later qa
   replace LS := LS.later qa
   replace LT := LT.later qa
   replace LU1 := LU1.later qa
   replace LU2 := LU2.later qa
   replace LU := LU.later qa
   replace LL := LL.later qa
   replace LV := LV.later qa
   replace LP0 := LP0.later qa
   replace LP1 := LP1.later qa
   replace LP2 := LP2.later qa
   replace LP3 := LP3.later qa
   replace LP := LP.later qa
   replace LB := LB.later qa
   replace LM1 := LM1.later qa
   replace LM2 := LM2.later qa
   replace Q := Q.trans (qa.mono Q.size)
   clear qa
   have k53 := LB.cell 0 _ rfl
   have k54 := LB.cell 1 _ rfl
   have k55 := LM.cell 0 _ rfl
   have k56 := LM.cell 1 _ rfl
   go_wp2_with fail
   generalize mw1.heap.size = gM1 at *
   clear hV8 k53 k54 k55 k56 k51 k52
   refine (RK.out V8 LP0 LP1).mono ?_
   rintro _ nw1 ⟨Nx, Ny, rfl, LN1, LN2, q1⟩
   replace LA1 := LA1.later q1
   replace LA2 := LA2.later q1
   replace LX := LX.later q1
   replace LY := LY.later q1
   replace LS1 := LS1.later q1
   replace LS2 := LS2.later q1
   replace LS := LS.later q1
   replace LT := LT.later q1
   replace LU1 := LU1.later q1
   replace LU2 := LU2.later q1
   replace LU := LU.later q1
   replace LL := LL.later q1
   replace LV := LV.later q1
   replace LP0 := LP0.later q1
   replace LP1 := LP1.later q1
   replace LP2 := LP2.later q1
   replace LP3 := LP3.later q1
   replace LP := LP.later q1
   replace LB := LB.later q1
   replace LM1 := LM1.later q1
   replace LM2 := LM2.later q1
   replace LM := LM.later q1
   replace Q := Q.trans (q1.mono Q.size)
   clear q1 RK
   obtain ⟨Np1, Nq1, rfl, _, _⟩ := LN1.shape
   obtain ⟨Nr1, Ns1, rfl, _, _⟩ := LN2.shape
   have k57 := LM.cell 0 _ rfl
   have k58 := LM.cell 1 _ rfl
   have qa := newA nw1 (.cells #[.slice Np1 ma1.length Nq1, .slice Nr1 mb1.length Ns1] 24)
   have LN := Has.new nw1 24 #[.slice Np1 ma1.length Nq1, .slice Nr1 mb1.length Ns1]
   obtain ⟨V9, hV9⟩ : ∃ V9, nw1.alloc (.cells #[.slice Np1 ma1.length Nq1, .slice Nr1 mb1.length Ns1] 24) = V9 := ⟨_, rfl⟩
   rw [hV9] at qa LN
   replace LA1 := LA1.later qa
   replace LA2 := LA2.later qa
   replace LX := LX.later qa
   replace LY := LY.later qa
   replace LS1 := LS1.later qa
   replace LS2 := LS2.later qa
   replace LS := LS.later qa
   replace LT := LT.later qa
   replace LU1 := LU1.later qa
   replace LU2 := LU2.later qa
   replace LU := LU.later qa
   replace LL := LL.later qa
   replace LV := LV.later qa
   replace LP0 := LP0.later qa
   replace LP1 := LP1.later qa
   replace LP2 := LP2.later qa
   replace LP3 := LP3.later qa
   replace LP := LP.later qa
   replace LB := LB.later qa
   replace LM1 := LM1.later qa
   replace LM2 := LM2.later qa
   replace LM := LM.later qa
   replace LN1 := LN1.later qa
   replace LN2 := LN2.later qa
   replace Q := Q.trans (qa.mono Q.size)
   clear qa
   have k59 := LM.cell 0 _ rfl
   have k60 := LM.cell 1 _ rfl
   have k61 := LN.cell 0 _ rfl
   have k62 := LN.cell 1 _ rfl
   go_wp2_with fail
   generalize nw1.heap.size = gN1 at *
   clear hV9 k59 k60 k61 k62 k57 k58
   have SK := hid (show Calls Try.prog 13 #[.agg #[.slice Mp1 ma1.length Mq1, .slice Mr1 mb1.length Ms1], .agg #[.slice Np1 ma1.length Nq1, .slice Nr1 mb1.length Ns1]] V9 (fun e w' => e = .returned (.bool true) ∧ Below V9.heap.size V9 w') from by
    have h := ksets_any V9 _ _ ma1 mb1 ma1 mb1 ⟨_, _, rfl, LM1, LM2⟩ ⟨_, _, rfl, LN1, LN2⟩
    rw [show (decide (ma1 = ma1) && decide (mb1 = mb1)) = true by simp] at h
    exact h)
   refine SK.out.mono ?_
   rintro _ sw1 ⟨rfl, q1⟩
   replace LA1 := LA1.later q1
   replace LA2 := LA2.later q1
   replace LX := LX.later q1
   replace LY := LY.later q1
   replace LS1 := LS1.later q1
   replace LS2 := LS2.later q1
   replace LS := LS.later q1
   replace LT := LT.later q1
   replace LU1 := LU1.later q1
   replace LU2 := LU2.later q1
   replace LU := LU.later q1
   replace LL := LL.later q1
   replace LV := LV.later q1
   replace LP0 := LP0.later q1
   replace LP1 := LP1.later q1
   replace LP2 := LP2.later q1
   replace LP3 := LP3.later q1
   replace LP := LP.later q1
   replace LB := LB.later q1
   replace LM1 := LM1.later q1
   replace LM2 := LM2.later q1
   replace LM := LM.later q1
   replace LN1 := LN1.later q1
   replace LN2 := LN2.later q1
   replace LN := LN.later q1
   replace Q := Q.trans (q1.mono Q.size)
   clear q1 SK
   clear LB LM LN LM1 LM2 LN1 LN2
   have k63 := LP.cell 0 _ rfl
   have k64 := LP.cell 1 _ rfl
   have k65 := LP.cell 2 _ rfl
   have k66 := LP.cell 3 _ rfl
   have k67 := LP.cell 4 _ rfl
   have k68 := LP.cell 5 _ rfl
   go_wp2
   rw [rounds_succ]
   clear k63 k64 k65 k66 k67 k68
   obtain ⟨ma2, hma⟩ : ∃ l, (makeM (keysN z2) (lx)).1 = l := ⟨_, rfl⟩
   obtain ⟨mb2, hmb⟩ : ∃ l, (makeM (keysN z2) (lx)).2.1 = l := ⟨_, rfl⟩
   obtain ⟨mc2, hmc⟩ : ∃ l, (makeM (keysN z2) (lx)).2.2 = l := ⟨_, rfl⟩
   have MK := hid (fun (Y : World) (i1 : KeysAt Y (.slice o2 u1 r2) (keysN z2)) (i2 : KeysAt Y (.slice o3 u3 r3) (lx)) => (show Calls Try.prog 11 #[.slice o2 u1 r2, .slice o3 u3 r3] Y (SetsP Y ma2 mb2 mc2) from by
    have h := make_any Y _ _ _ _ i1 i2 (Nat.le_trans HZ2.out (by omega)) (Nat.le_trans HZ3.out (by omega))
    rw [hma, hmb, hmc] at h
    exact h).mono fun e w' h => h.ex)
   have RK := hid (fun (Y : World) (i1 : KeysAt Y (.slice o2 u1 r2) (keysN z2)) (i2 : KeysAt Y (.slice o3 u3 r3) (lx)) => (show Calls Try.prog 12 #[.slice o2 u1 r2, .slice o3 u3 r3] Y (SetsP Y ma2 mb2 mc2) from by
    have h := rmakeG_any Y _ _ _ _ i1 i2 (Nat.le_trans HZ2.out (by omega)) (Nat.le_trans HZ3.out (by omega))
    rw [hma, hmb, hmc] at h
    exact h).mono fun e w' h => h.ex)
   clear hma hmb hmc
   have k69 := LP.cell 0 _ rfl
   have k70 := LP.cell 1 _ rfl
   have k71 := LP.cell 2 _ rfl
   have k72 := LP.cell 3 _ rfl
   have k73 := LP.cell 4 _ rfl
   have k74 := LP.cell 5 _ rfl
   have qa := newA sw1 (.cells #[.slice o2 u1 r2, .slice o3 u3 r3] 38)
   have LB := Has.new sw1 38 #[.slice o2 u1 r2, .slice o3 u3 r3]
   obtain ⟨V10, hV10⟩ : ∃ V10, sw1.alloc (.cells #[.slice o2 u1 r2, .slice o3 u3 r3] 38) = V10 := ⟨_, rfl⟩
   rw [hV10] at qa LB
   replace LA1 := LA1.later qa
   replace LA2 := LA2.later qa
   replace LX := LX.later qa
   replace LY := LY.later qa
   replace LS1 := LS1.later qa
   replace LS2 := LS2.later qa
   replace LS := LS.later qa
   replace LT := LT.later qa
   replace LU1 := LU1.later qa
   replace LU2 := LU2.later qa
   replace LU := LU.later qa
   replace LL := LL.later qa
   replace LV := LV.later qa
   replace LP0 := LP0.later qa
   replace LP1 := LP1.later qa
   replace LP2 := LP2.later qa
   replace LP3 := LP3.later qa
   replace LP := LP.later qa
   replace Q := Q.trans (qa.mono Q.size)
   clear qa
   have k75 := LP.cell 0 _ rfl
   have k76 := LP.cell 1 _ rfl
   have k77 := LP.cell 2 _ rfl
   have k78 := LP.cell 3 _ rfl
   have k79 := LP.cell 4 _ rfl
   have k80 := LP.cell 5 _ rfl
   have k81 := LB.cell 0 _ rfl
   have k82 := LB.cell 1 _ rfl
   go_wp2_with fail
   generalize sw1.heap.size = gB2 at *
   clear hV10 k75 k76 k77 k78 k79 k80 k81 k82 k69 k70 k71 k72 k73 k74
   refine (MK.out V10 LP2 LP3).mono ?_
   rintro _ mw2 ⟨Mx, My, rfl, LM1, LM2, q1⟩
   replace LA1 := LA1.later q1
   replace LA2 := LA2.later q1
   replace LX := LX.later q1
   replace LY := LY.later q1
   replace LS1 := LS1.later q1
   replace LS2 := LS2.later q1
   replace LS := LS.later q1
   replace LT := LT.later q1
   replace LU1 := LU1.later q1
   replace LU2 := LU2.later q1
   replace LU := LU.later q1
   replace LL := LL.later q1
   replace LV := LV.later q1
   replace LP0 := LP0.later q1
   replace LP1 := LP1.later q1
   replace LP2 := LP2.later q1
   replace LP3 := LP3.later q1
   replace LP := LP.later q1
   replace LB := LB.later q1
   replace Q := Q.trans (q1.mono Q.size)
   clear q1 MK
   obtain ⟨Mp2, Mq2, rfl, _, _⟩ := LM1.shape
   obtain ⟨Mr2, Ms2, rfl, _, _⟩ := LM2.shape
   have k83 := LB.cell 0 _ rfl
   have k84 := LB.cell 1 _ rfl
   have qa := newA mw2 (.cells #[.slice Mp2 ma2.length Mq2, .slice Mr2 mb2.length Ms2] 24)
   have LM := Has.new mw2 24 #[.slice Mp2 ma2.length Mq2, .slice Mr2 mb2.length Ms2]
   obtain ⟨V11, hV11⟩ : ∃ V11, mw2.alloc (.cells #[.slice Mp2 ma2.length Mq2, .slice Mr2 mb2.length Ms2] 24) = V11 := ⟨_, rfl⟩
   rw [hV11] at qa LM
   replace LA1 := LA1.later qa
   replace LA2 := LA2.later qa
   replace LX := LX.later qa
   replace LY := LY.later qa
   replace LS1 := LS1.later qa
   replace LS2 := LS2.later qa
   replace LS := LS.later qa
   replace LT := LT.later qa
   replace LU1 := LU1.later qa
   replace LU2 := LU2.later qa
   replace LU := LU.later qa
   replace LL := LL.later qa
   replace LV := LV.later qa
   replace LP0 := LP0.later qa
   replace LP1 := LP1.later qa
   replace LP2 := LP2.later qa
   replace LP3 := LP3.later qa
   replace LP := LP.later qa
   replace LB := LB.later qa
   replace LM1 := LM1.later qa
   replace LM2 := LM2.later qa
   replace Q := Q.trans (qa.mono Q.size)
   clear qa
   have k85 := LB.cell 0 _ rfl
   have k86 := LB.cell 1 _ rfl
   have k87 := LM.cell 0 _ rfl
   have k88 := LM.cell 1 _ rfl
   go_wp2_with fail
   generalize mw2.heap.size = gM2 at *
   clear hV11 k85 k86 k87 k88 k83 k84
   refine (RK.out V11 LP2 LP3).mono ?_
   rintro _ nw2 ⟨Nx, Ny, rfl, LN1, LN2, q1⟩
   replace LA1 := LA1.later q1
   replace LA2 := LA2.later q1
   replace LX := LX.later q1
   replace LY := LY.later q1
   replace LS1 := LS1.later q1
   replace LS2 := LS2.later q1
   replace LS := LS.later q1
   replace LT := LT.later q1
   replace LU1 := LU1.later q1
   replace LU2 := LU2.later q1
   replace LU := LU.later q1
   replace LL := LL.later q1
   replace LV := LV.later q1
   replace LP0 := LP0.later q1
   replace LP1 := LP1.later q1
   replace LP2 := LP2.later q1
   replace LP3 := LP3.later q1
   replace LP := LP.later q1
   replace LB := LB.later q1
   replace LM1 := LM1.later q1
   replace LM2 := LM2.later q1
   replace LM := LM.later q1
   replace Q := Q.trans (q1.mono Q.size)
   clear q1 RK
   obtain ⟨Np2, Nq2, rfl, _, _⟩ := LN1.shape
   obtain ⟨Nr2, Ns2, rfl, _, _⟩ := LN2.shape
   have k89 := LM.cell 0 _ rfl
   have k90 := LM.cell 1 _ rfl
   have qa := newA nw2 (.cells #[.slice Np2 ma2.length Nq2, .slice Nr2 mb2.length Ns2] 24)
   have LN := Has.new nw2 24 #[.slice Np2 ma2.length Nq2, .slice Nr2 mb2.length Ns2]
   obtain ⟨V12, hV12⟩ : ∃ V12, nw2.alloc (.cells #[.slice Np2 ma2.length Nq2, .slice Nr2 mb2.length Ns2] 24) = V12 := ⟨_, rfl⟩
   rw [hV12] at qa LN
   replace LA1 := LA1.later qa
   replace LA2 := LA2.later qa
   replace LX := LX.later qa
   replace LY := LY.later qa
   replace LS1 := LS1.later qa
   replace LS2 := LS2.later qa
   replace LS := LS.later qa
   replace LT := LT.later qa
   replace LU1 := LU1.later qa
   replace LU2 := LU2.later qa
   replace LU := LU.later qa
   replace LL := LL.later qa
   replace LV := LV.later qa
   replace LP0 := LP0.later qa
   replace LP1 := LP1.later qa
   replace LP2 := LP2.later qa
   replace LP3 := LP3.later qa
   replace LP := LP.later qa
   replace LB := LB.later qa
   replace LM1 := LM1.later qa
   replace LM2 := LM2.later qa
   replace LM := LM.later qa
   replace LN1 := LN1.later qa
   replace LN2 := LN2.later qa
   replace Q := Q.trans (qa.mono Q.size)
   clear qa
   have k91 := LM.cell 0 _ rfl
   have k92 := LM.cell 1 _ rfl
   have k93 := LN.cell 0 _ rfl
   have k94 := LN.cell 1 _ rfl
   go_wp2_with fail
   generalize nw2.heap.size = gN2 at *
   clear hV12 k91 k92 k93 k94 k89 k90
   have SK := hid (show Calls Try.prog 13 #[.agg #[.slice Mp2 ma2.length Mq2, .slice Mr2 mb2.length Ms2], .agg #[.slice Np2 ma2.length Nq2, .slice Nr2 mb2.length Ns2]] V12 (fun e w' => e = .returned (.bool true) ∧ Below V12.heap.size V12 w') from by
    have h := ksets_any V12 _ _ ma2 mb2 ma2 mb2 ⟨_, _, rfl, LM1, LM2⟩ ⟨_, _, rfl, LN1, LN2⟩
    rw [show (decide (ma2 = ma2) && decide (mb2 = mb2)) = true by simp] at h
    exact h)
   refine SK.out.mono ?_
   rintro _ sw2 ⟨rfl, q1⟩
   replace LA1 := LA1.later q1
   replace LA2 := LA2.later q1
   replace LX := LX.later q1
   replace LY := LY.later q1
   replace LS1 := LS1.later q1
   replace LS2 := LS2.later q1
   replace LS := LS.later q1
   replace LT := LT.later q1
   replace LU1 := LU1.later q1
   replace LU2 := LU2.later q1
   replace LU := LU.later q1
   replace LL := LL.later q1
   replace LV := LV.later q1
   replace LP0 := LP0.later q1
   replace LP1 := LP1.later q1
   replace LP2 := LP2.later q1
   replace LP3 := LP3.later q1
   replace LP := LP.later q1
   replace LB := LB.later q1
   replace LM1 := LM1.later q1
   replace LM2 := LM2.later q1
   replace LM := LM.later q1
   replace LN1 := LN1.later q1
   replace LN2 := LN2.later q1
   replace LN := LN.later q1
   replace Q := Q.trans (q1.mono Q.size)
   clear q1 SK
   clear LB LM LN LM1 LM2 LN1 LN2
   go_wp2
   rw [rounds_succ]
   clear LP LP0 LP1 LP2 LP3
   have HLEN := hid (show ((setN z1).length ≤ 100000 ∧ (setN z2).length ≤ 100000) ∧ ((setN []).length ≤ 100000 ∧ ta.length ≤ 100000) ∧ (tb.length ≤ 100000 ∧ lk.length ≤ 100000) from by
    have i1 : ∀ z, (setN z).length ≤ 100000 := fun z => Nat.le_trans (setL_len _) (Nat.le_trans (keysN_len z) (by decide))
    exact ⟨⟨i1 _, i1 _⟩, ⟨i1 _, by have := HNL.out.1; omega⟩, ⟨by have := HNL.out.2; omega, by have := HLK.out; omega⟩⟩)
   have k95 := LS.cell 0 _ rfl
   have k96 := LS.cell 1 _ rfl
   have k97 := LT.cell 0 _ rfl
   have k98 := LT.cell 1 _ rfl
   have k99 := LV.cell 0 _ rfl
   have k100 := LV.cell 1 _ rfl
   have qa := newA sw2 (.cells #[.slice b1 p1 d1, .slice b2 p2 d2, .slice (uptoK a1 c1) m1 c1, .slice (uptoK a2 c2) m2 c2, .slice lv ln lc, .slice b2 p2 d2] 24)
   have LQ := Has.new sw2 24 #[.slice b1 p1 d1, .slice b2 p2 d2, .slice (uptoK a1 c1) m1 c1, .slice (uptoK a2 c2) m2 c2, .slice lv ln lc, .slice b2 p2 d2]
   obtain ⟨V13, hV13⟩ : ∃ V13, sw2.alloc (.cells #[.slice b1 p1 d1, .slice b2 p2 d2, .slice (uptoK a1 c1) m1 c1, .slice (uptoK a2 c2) m2 c2, .slice lv ln lc, .slice b2 p2 d2] 24) = V13 := ⟨_, rfl⟩
   rw [hV13] at qa LQ
   replace LA1 := LA1.later qa
   replace LA2 := LA2.later qa
   replace LX := LX.later qa
   replace LY := LY.later qa
   replace LS1 := LS1.later qa
   replace LS2 := LS2.later qa
   replace LS := LS.later qa
   replace LT := LT.later qa
   replace LU1 := LU1.later qa
   replace LU2 := LU2.later qa
   replace LU := LU.later qa
   replace LL := LL.later qa
   replace LV := LV.later qa
   replace Q := Q.trans (qa.mono Q.size)
   clear qa
   have k101 := LS.cell 0 _ rfl
   have k102 := LS.cell 1 _ rfl
   have k103 := LT.cell 0 _ rfl
   have k104 := LT.cell 1 _ rfl
   have k105 := LV.cell 0 _ rfl
   have k106 := LV.cell 1 _ rfl
   go_wp2_with fail
   generalize sw2.heap.size = gQ at *
   clear hV13 k101 k102 k103 k104 k105 k106 k95 k96 k97 k98 k99 k100
   refine wp_loop_rounds 4 ?_
   rw [rounds_succ]
   have k107 := LQ.cell 0 _ rfl
   have k108 := LQ.cell 1 _ rfl
   have k109 := LQ.cell 2 _ rfl
   have k110 := LQ.cell 3 _ rfl
   have k111 := LQ.cell 4 _ rfl
   have k112 := LQ.cell 5 _ rfl
   have qa := newA V13 (.cells #[.slice b1 p1 d1, .slice b2 p2 d2] 24)
   have Lp := Has.new V13 24 #[.slice b1 p1 d1, .slice b2 p2 d2]
   obtain ⟨V14, hV14⟩ : ∃ V14, V13.alloc (.cells #[.slice b1 p1 d1, .slice b2 p2 d2] 24) = V14 := ⟨_, rfl⟩
   rw [hV14] at qa Lp
   replace LA1 := LA1.later qa
   replace LA2 := LA2.later qa
   replace LX := LX.later qa
   replace LY := LY.later qa
   replace LS1 := LS1.later qa
   replace LS2 := LS2.later qa
   replace LS := LS.later qa
   replace LT := LT.later qa
   replace LU1 := LU1.later qa
   replace LU2 := LU2.later qa
   replace LU := LU.later qa
   replace LL := LL.later qa
   replace LV := LV.later qa
   replace LQ := LQ.later qa
   replace Q := Q.trans (qa.mono Q.size)
   clear qa
   have k113 := LQ.cell 0 _ rfl
   have k114 := LQ.cell 1 _ rfl
   have k115 := LQ.cell 2 _ rfl
   have k116 := LQ.cell 3 _ rfl
   have k117 := LQ.cell 4 _ rfl
   have k118 := LQ.cell 5 _ rfl
   go_wp2_with fail
   generalize V13.heap.size = gp0 at *
   clear hV14 k113 k114 k115 k116 k117 k118 k107 k108 k109 k110 k111 k112
   have KP := hid (sets_load Lp)
   have KA := hid (fun z : Ext V14 => Ext.atK (kright_any z.w (.agg #[.slice b1 p1 d1, .slice b2 p2 d2]) (setN z1) (setN z2) ⟨_, _, rfl, LS1.later z.below, LS2.later z.below⟩))
   have KB := hid (fun z : Ext V14 => Ext.atK (rRight_any z.w (.agg #[.slice b1 p1 d1, .slice b2 p2 d2]) (setN z1) (setN z2) ⟨_, _, rfl, LS1.later z.below, LS2.later z.below⟩))
   generalize (fitB (setN z1) && fitB (setN z2)) = fb0 at *
   try simp only [List.append]
   refine wp_region_quietL (C := Grows V14) hmx (by kernel_rfl) (grows_refl V14) ?_
   repeat (first | (with_reducible refine wpQuiet_load rfl 24 _ rfl _ rfl _ KP.out ?_; simp only [Act.put, sT, sS, sZ]) | (go_big_quiet_step (first | (with_reducible exact KA.out _) | (with_reducible exact KB.out _))))
   refine wpQuiet_nil ?_
   rintro _ ⟨zwr0, rfl⟩
   have qa := zwr0.below
   replace LA1 := LA1.later qa
   replace LA2 := LA2.later qa
   replace LX := LX.later qa
   replace LY := LY.later qa
   replace LS1 := LS1.later qa
   replace LS2 := LS2.later qa
   replace LS := LS.later qa
   replace LT := LT.later qa
   replace LU1 := LU1.later qa
   replace LU2 := LU2.later qa
   replace LU := LU.later qa
   replace LL := LL.later qa
   replace LV := LV.later qa
   replace LQ := LQ.later qa
   replace Lp := Lp.later qa
   replace Q := Q.trans (qa.mono Q.size)
   clear qa
   generalize zwr0.w = wr0 at *
   clear KP KA KB
   have kx := LX.kyLoad
   have ky := LY.kyLoad
   have qa := newA wr0 (.cells (flatKy [x, y]).toArray 31)
   have LK := keys_made wr0 [x, y] (by intro z hz; simp at hz; rcases hz with rfl | rfl; exact HX.out; exact HY.out) (by simp)
   obtain ⟨V15, hV15⟩ : ∃ V15, wr0.alloc (.cells (flatKy [x, y]).toArray 31) = V15 := ⟨_, rfl⟩
   rw [hV15] at qa LK
   replace LA1 := LA1.later qa
   replace LA2 := LA2.later qa
   replace LX := LX.later qa
   replace LY := LY.later qa
   replace LS1 := LS1.later qa
   replace LS2 := LS2.later qa
   replace LS := LS.later qa
   replace LT := LT.later qa
   replace LU1 := LU1.later qa
   replace LU2 := LU2.later qa
   replace LU := LU.later qa
   replace LL := LL.later qa
   replace LV := LV.later qa
   replace LQ := LQ.later qa
   replace Lp := Lp.later qa
   replace Q := Q.trans (qa.mono Q.size)
   clear qa
   go_wp2_with (first | (refine wpList_load_known rfl _ (.tmp 7) rfl _ rfl _ kx ?_) | (refine wpList_load_known rfl _ (.tmp 8) rfl _ rfl _ ky ?_) | (refine wpList_build_k2 rfl (.tmp 145) (.tmp 146) rfl x y rfl rfl ?_))
   generalize wr0.heap.size = gK0 at *
   try rw [hV15]
   clear hV15 kx ky
   refine wp_loop_rounds 3 ?_
   rw [rounds_succ]
   have hk0 : (loadVar 31 ⟨gK0, 0, none⟩).run Try.prog V15 = .ok (.agg (kyC x)) V15 := by
    have h := (LK.in (i := 0) rfl).load
    rw [add_lit] at h
    exact h
   have HZ := Has.new V15 31 #[.int .u8 0, .int .u8 0, .int .u8 0, .int .u8 0, .int .u8 0, .int .u8 0, .int .u8 0, .int .u8 0, .int .u8 0, .int .u8 0, .int .u8 0, .int .u8 0, .int .u8 0, .int .u8 0, .int .u8 0, .int .u8 0, .int .u8 0, .int .u8 0, .int .u8 0, .int .u8 0, .bool false, .int .u64 0, .int .u64 0, .int .u64 0, .int .u64 0]
   have qa := below_rowK (newA V15 (.cells #[.int .u8 0, .int .u8 0, .int .u8 0, .int .u8 0, .int .u8 0, .int .u8 0, .int .u8 0, .int .u8 0, .int .u8 0, .int .u8 0, .int .u8 0, .int .u8 0, .int .u8 0, .int .u8 0, .int .u8 0, .int .u8 0, .int .u8 0, .int .u8 0, .int .u8 0, .int .u8 0, .bool false, .int .u64 0, .int .u64 0, .int .u64 0, .int .u64 0] 31)) (g := V15.heap.size) (Nat.le_refl _) (kyC x)
   have Lk : Has ((V15.alloc (.cells #[.int .u8 0, .int .u8 0, .int .u8 0, .int .u8 0, .int .u8 0, .int .u8 0, .int .u8 0, .int .u8 0, .int .u8 0, .int .u8 0, .int .u8 0, .int .u8 0, .int .u8 0, .int .u8 0, .int .u8 0, .int .u8 0, .int .u8 0, .int .u8 0, .int .u8 0, .int .u8 0, .bool false, .int .u64 0, .int .u64 0, .int .u64 0, .int .u64 0] 31)).setRow V15.heap.size (kyC x)) V15.heap.size 31 (kyC x) := setRow_heap _ _ _ _ _ _ HZ
   have HI : (Try.prog.info? 31).map (·.size) = some (kyC x).size := by rw [kyC_size]; exact infoKy
   have HI := hid HI
   have HSZ := hid (show (#[.int .u8 0, .int .u8 0, .int .u8 0, .int .u8 0, .int .u8 0, .int .u8 0, .int .u8 0, .int .u8 0, .int .u8 0, .int .u8 0, .int .u8 0, .int .u8 0, .int .u8 0, .int .u8 0, .int .u8 0, .int .u8 0, .int .u8 0, .int .u8 0, .int .u8 0, .int .u8 0, .bool false, .int .u64 0, .int .u64 0, .int .u64 0, .int .u64 0] : Array Value).size = (kyC x).size by rw [kyC_size]; rfl)
   have HON := hid (kyC_one x)
   have HZ := hid HZ
   obtain ⟨V16, hV16⟩ : ∃ V16, (V15.alloc (.cells #[.int .u8 0, .int .u8 0, .int .u8 0, .int .u8 0, .int .u8 0, .int .u8 0, .int .u8 0, .int .u8 0, .int .u8 0, .int .u8 0, .int .u8 0, .int .u8 0, .int .u8 0, .int .u8 0, .int .u8 0, .int .u8 0, .int .u8 0, .int .u8 0, .int .u8 0, .int .u8 0, .bool false, .int .u64 0, .int .u64 0, .int .u64 0, .int .u64 0] 31)).setRow V15.heap.size (kyC x) = V16 := ⟨_, rfl⟩
   rw [hV16] at qa Lk
   replace LA1 := LA1.later qa
   replace LA2 := LA2.later qa
   replace LX := LX.later qa
   replace LY := LY.later qa
   replace LS1 := LS1.later qa
   replace LS2 := LS2.later qa
   replace LS := LS.later qa
   replace LT := LT.later qa
   replace LU1 := LU1.later qa
   replace LU2 := LU2.later qa
   replace LU := LU.later qa
   replace LL := LL.later qa
   replace LV := LV.later qa
   replace LQ := LQ.later qa
   replace Lp := Lp.later qa
   replace LK := LK.later qa
   replace Q := Q.trans (qa.mono Q.size)
   clear qa
   have HV16 := hid hV16
   clear hV16
   go_wp2_with (first | (refine wpList_load_known rfl _ (.tmp 151) rfl _ rfl _ hk0 ?_) | (refine wpList_store_row rfl _ (.tmp 29) (.tmp 152) rfl _ _ rfl rfl _ _ HZ.out HI.out HSZ.out HON.out ?_))
   generalize V15.heap.size = gk00 at *
   try rw [HV16.out]
   clear HV16 HZ HI HSZ HON hk0
   have KP := hid (sets_load Lp)
   have KK := hid (show ∀ z : World, Grows V16 z → (loadVar 31 ⟨gk00, 0, none⟩).run Try.prog z = .ok (.agg (kyC x)) z from fun z hz => by obtain ⟨q, rfl⟩ := hz; exact (Lk.later q.below).kyLoad)
   have ea := any_amid x (setN z1)
   have eb := any_amid x (setN z2)
   obtain ⟨bt00, hbt⟩ : ∃ b, (amidB x (setN z2) || (!true && amidB x (setN z1))) = b := ⟨_, rfl⟩
   obtain ⟨bf00, hbf⟩ : ∃ b, (amidB x (setN z2) || (!false && amidB x (setN z1))) = b := ⟨_, rfl⟩
   have MA := hid (show ∀ z : Ext V16, Calls Try.prog 16 #[.agg #[.slice b1 p1 d1, .slice b2 p2 d2], .agg (kyC x), .bool true] z.w (fun e w' => e = .returned (.bool bt00) ∧ ∃ x : Ext V16, w' = x.w) from fun z => by
    have h := Ext.atK (kmay_any z.w (.agg #[.slice b1 p1 d1, .slice b2 p2 d2]) (setN z1) (setN z2) x true HX.out ⟨_, _, rfl, LS1.later z.below, LS2.later z.below⟩)
    rw [ea, eb, hbt] at h
    exact h)
   have MB := hid (show ∀ z : Ext V16, Calls Try.prog 17 #[.agg #[.slice b1 p1 d1, .slice b2 p2 d2], .agg (kyC x), .bool true] z.w (fun e w' => e = .returned (.bool bt00) ∧ ∃ x : Ext V16, w' = x.w) from fun z => by
    have h := Ext.atK (rMay_any z.w (.agg #[.slice b1 p1 d1, .slice b2 p2 d2]) (setN z1) (setN z2) x true HX.out ⟨_, _, rfl, LS1.later z.below, LS2.later z.below⟩)
    rw [hbt] at h
    exact h)
   have MC := hid (show ∀ z : Ext V16, Calls Try.prog 16 #[.agg #[.slice b1 p1 d1, .slice b2 p2 d2], .agg (kyC x), .bool false] z.w (fun e w' => e = .returned (.bool bf00) ∧ ∃ x : Ext V16, w' = x.w) from fun z => by
    have h := Ext.atK (kmay_any z.w (.agg #[.slice b1 p1 d1, .slice b2 p2 d2]) (setN z1) (setN z2) x false HX.out ⟨_, _, rfl, LS1.later z.below, LS2.later z.below⟩)
    rw [ea, eb, hbf] at h
    exact h)
   have MD := hid (show ∀ z : Ext V16, Calls Try.prog 17 #[.agg #[.slice b1 p1 d1, .slice b2 p2 d2], .agg (kyC x), .bool false] z.w (fun e w' => e = .returned (.bool bf00) ∧ ∃ x : Ext V16, w' = x.w) from fun z => by
    have h := Ext.atK (rMay_any z.w (.agg #[.slice b1 p1 d1, .slice b2 p2 d2]) (setN z1) (setN z2) x false HX.out ⟨_, _, rfl, LS1.later z.below, LS2.later z.below⟩)
    rw [hbf] at h
    exact h)
   clear ea eb hbt hbf
   try simp only [List.append]
   refine wp_region_quietL (C := Grows V16) hmx (by kernel_rfl) (grows_refl V16) ?_
   repeat (first | (with_reducible refine wpQuiet_load rfl 24 _ rfl _ rfl _ KP.out ?_; simp only [Act.put, sT, sS, sZ]) | (with_reducible refine wpQuiet_load rfl 31 _ rfl _ rfl _ KK.out ?_; simp only [Act.put, sT, sS, sZ]) | (go_big_quiet_step (first | (with_reducible exact MA.out _) | (with_reducible exact MB.out _) | (with_reducible exact MC.out _) | (with_reducible exact MD.out _))))
   refine wpQuiet_nil ?_
   rintro _ ⟨zwm00, rfl⟩
   have qa := zwm00.below
   replace LA1 := LA1.later qa
   replace LA2 := LA2.later qa
   replace LX := LX.later qa
   replace LY := LY.later qa
   replace LS1 := LS1.later qa
   replace LS2 := LS2.later qa
   replace LS := LS.later qa
   replace LT := LT.later qa
   replace LU1 := LU1.later qa
   replace LU2 := LU2.later qa
   replace LU := LU.later qa
   replace LL := LL.later qa
   replace LV := LV.later qa
   replace LQ := LQ.later qa
   replace Lp := Lp.later qa
   replace LK := LK.later qa
   replace Lk := Lk.later qa
   replace Q := Q.trans (qa.mono Q.size)
   clear qa
   generalize zwm00.w = wm00 at *
   clear KP KK MA MB MC MD
   clear Lk
   go_wp2
   rw [rounds_succ]
   have hk0 : (loadVar 31 ⟨gK0, 25, none⟩).run Try.prog wm00 = .ok (.agg (kyC y)) wm00 := by
    have h := (LK.in (i := 1) rfl).load
    rw [add_lit] at h
    exact h
   have HZ := Has.new wm00 31 #[.int .u8 0, .int .u8 0, .int .u8 0, .int .u8 0, .int .u8 0, .int .u8 0, .int .u8 0, .int .u8 0, .int .u8 0, .int .u8 0, .int .u8 0, .int .u8 0, .int .u8 0, .int .u8 0, .int .u8 0, .int .u8 0, .int .u8 0, .int .u8 0, .int .u8 0, .int .u8 0, .bool false, .int .u64 0, .int .u64 0, .int .u64 0, .int .u64 0]
   have qa := below_rowK (newA wm00 (.cells #[.int .u8 0, .int .u8 0, .int .u8 0, .int .u8 0, .int .u8 0, .int .u8 0, .int .u8 0, .int .u8 0, .int .u8 0, .int .u8 0, .int .u8 0, .int .u8 0, .int .u8 0, .int .u8 0, .int .u8 0, .int .u8 0, .int .u8 0, .int .u8 0, .int .u8 0, .int .u8 0, .bool false, .int .u64 0, .int .u64 0, .int .u64 0, .int .u64 0] 31)) (g := wm00.heap.size) (Nat.le_refl _) (kyC y)
   have Lk : Has ((wm00.alloc (.cells #[.int .u8 0, .int .u8 0, .int .u8 0, .int .u8 0, .int .u8 0, .int .u8 0, .int .u8 0, .int .u8 0, .int .u8 0, .int .u8 0, .int .u8 0, .int .u8 0, .int .u8 0, .int .u8 0, .int .u8 0, .int .u8 0, .int .u8 0, .int .u8 0, .int .u8 0, .int .u8 0, .bool false, .int .u64 0, .int .u64 0, .int .u64 0, .int .u64 0] 31)).setRow wm00.heap.size (kyC y)) wm00.heap.size 31 (kyC y) := setRow_heap _ _ _ _ _ _ HZ
   have HI : (Try.prog.info? 31).map (·.size) = some (kyC y).size := by rw [kyC_size]; exact infoKy
   have HI := hid HI
   have HSZ := hid (show (#[.int .u8 0, .int .u8 0, .int .u8 0, .int .u8 0, .int .u8 0, .int .u8 0, .int .u8 0, .int .u8 0, .int .u8 0, .int .u8 0, .int .u8 0, .int .u8 0, .int .u8 0, .int .u8 0, .int .u8 0, .int .u8 0, .int .u8 0, .int .u8 0, .int .u8 0, .int .u8 0, .bool false, .int .u64 0, .int .u64 0, .int .u64 0, .int .u64 0] : Array Value).size = (kyC y).size by rw [kyC_size]; rfl)
   have HON := hid (kyC_one y)
   have HZ := hid HZ
   obtain ⟨V17, hV17⟩ : ∃ V17, (wm00.alloc (.cells #[.int .u8 0, .int .u8 0, .int .u8 0, .int .u8 0, .int .u8 0, .int .u8 0, .int .u8 0, .int .u8 0, .int .u8 0, .int .u8 0, .int .u8 0, .int .u8 0, .int .u8 0, .int .u8 0, .int .u8 0, .int .u8 0, .int .u8 0, .int .u8 0, .int .u8 0, .int .u8 0, .bool false, .int .u64 0, .int .u64 0, .int .u64 0, .int .u64 0] 31)).setRow wm00.heap.size (kyC y) = V17 := ⟨_, rfl⟩
   rw [hV17] at qa Lk
   replace LA1 := LA1.later qa
   replace LA2 := LA2.later qa
   replace LX := LX.later qa
   replace LY := LY.later qa
   replace LS1 := LS1.later qa
   replace LS2 := LS2.later qa
   replace LS := LS.later qa
   replace LT := LT.later qa
   replace LU1 := LU1.later qa
   replace LU2 := LU2.later qa
   replace LU := LU.later qa
   replace LL := LL.later qa
   replace LV := LV.later qa
   replace LQ := LQ.later qa
   replace Lp := Lp.later qa
   replace LK := LK.later qa
   replace Q := Q.trans (qa.mono Q.size)
   clear qa
   have HV17 := hid hV17
   clear hV17
   go_wp2_with (first | (refine wpList_load_known rfl _ (.tmp 151) rfl _ rfl _ hk0 ?_) | (refine wpList_store_row rfl _ (.tmp 29) (.tmp 152) rfl _ _ rfl rfl _ _ HZ.out HI.out HSZ.out HON.out ?_))
   generalize wm00.heap.size = gk01 at *
   try rw [HV17.out]
   clear HV17 HZ HI HSZ HON hk0
   have KP := hid (sets_load Lp)
   have KK := hid (show ∀ z : World, Grows V17 z → (loadVar 31 ⟨gk01, 0, none⟩).run Try.prog z = .ok (.agg (kyC y)) z from fun z hz => by obtain ⟨q, rfl⟩ := hz; exact (Lk.later q.below).kyLoad)
   have ea := any_amid y (setN z1)
   have eb := any_amid y (setN z2)
   obtain ⟨bt01, hbt⟩ : ∃ b, (amidB y (setN z2) || (!true && amidB y (setN z1))) = b := ⟨_, rfl⟩
   obtain ⟨bf01, hbf⟩ : ∃ b, (amidB y (setN z2) || (!false && amidB y (setN z1))) = b := ⟨_, rfl⟩
   have MA := hid (show ∀ z : Ext V17, Calls Try.prog 16 #[.agg #[.slice b1 p1 d1, .slice b2 p2 d2], .agg (kyC y), .bool true] z.w (fun e w' => e = .returned (.bool bt01) ∧ ∃ x : Ext V17, w' = x.w) from fun z => by
    have h := Ext.atK (kmay_any z.w (.agg #[.slice b1 p1 d1, .slice b2 p2 d2]) (setN z1) (setN z2) y true HY.out ⟨_, _, rfl, LS1.later z.below, LS2.later z.below⟩)
    rw [ea, eb, hbt] at h
    exact h)
   have MB := hid (show ∀ z : Ext V17, Calls Try.prog 17 #[.agg #[.slice b1 p1 d1, .slice b2 p2 d2], .agg (kyC y), .bool true] z.w (fun e w' => e = .returned (.bool bt01) ∧ ∃ x : Ext V17, w' = x.w) from fun z => by
    have h := Ext.atK (rMay_any z.w (.agg #[.slice b1 p1 d1, .slice b2 p2 d2]) (setN z1) (setN z2) y true HY.out ⟨_, _, rfl, LS1.later z.below, LS2.later z.below⟩)
    rw [hbt] at h
    exact h)
   have MC := hid (show ∀ z : Ext V17, Calls Try.prog 16 #[.agg #[.slice b1 p1 d1, .slice b2 p2 d2], .agg (kyC y), .bool false] z.w (fun e w' => e = .returned (.bool bf01) ∧ ∃ x : Ext V17, w' = x.w) from fun z => by
    have h := Ext.atK (kmay_any z.w (.agg #[.slice b1 p1 d1, .slice b2 p2 d2]) (setN z1) (setN z2) y false HY.out ⟨_, _, rfl, LS1.later z.below, LS2.later z.below⟩)
    rw [ea, eb, hbf] at h
    exact h)
   have MD := hid (show ∀ z : Ext V17, Calls Try.prog 17 #[.agg #[.slice b1 p1 d1, .slice b2 p2 d2], .agg (kyC y), .bool false] z.w (fun e w' => e = .returned (.bool bf01) ∧ ∃ x : Ext V17, w' = x.w) from fun z => by
    have h := Ext.atK (rMay_any z.w (.agg #[.slice b1 p1 d1, .slice b2 p2 d2]) (setN z1) (setN z2) y false HY.out ⟨_, _, rfl, LS1.later z.below, LS2.later z.below⟩)
    rw [hbf] at h
    exact h)
   clear ea eb hbt hbf
   try simp only [List.append]
   refine wp_region_quietL (C := Grows V17) hmx (by kernel_rfl) (grows_refl V17) ?_
   repeat (first | (with_reducible refine wpQuiet_load rfl 24 _ rfl _ rfl _ KP.out ?_; simp only [Act.put, sT, sS, sZ]) | (with_reducible refine wpQuiet_load rfl 31 _ rfl _ rfl _ KK.out ?_; simp only [Act.put, sT, sS, sZ]) | (go_big_quiet_step (first | (with_reducible exact MA.out _) | (with_reducible exact MB.out _) | (with_reducible exact MC.out _) | (with_reducible exact MD.out _))))
   refine wpQuiet_nil ?_
   rintro _ ⟨zwm01, rfl⟩
   have qa := zwm01.below
   replace LA1 := LA1.later qa
   replace LA2 := LA2.later qa
   replace LX := LX.later qa
   replace LY := LY.later qa
   replace LS1 := LS1.later qa
   replace LS2 := LS2.later qa
   replace LS := LS.later qa
   replace LT := LT.later qa
   replace LU1 := LU1.later qa
   replace LU2 := LU2.later qa
   replace LU := LU.later qa
   replace LL := LL.later qa
   replace LV := LV.later qa
   replace LQ := LQ.later qa
   replace Lp := Lp.later qa
   replace LK := LK.later qa
   replace Lk := Lk.later qa
   replace Q := Q.trans (qa.mono Q.size)
   clear qa
   generalize zwm01.w = wm01 at *
   clear KP KK MA MB MC MD
   clear Lk
   go_wp2
   rw [rounds_succ]
   clear LK
   have k119 := LS.cell 0 _ rfl
   have k120 := LS.cell 1 _ rfl
   have k121 := LT.cell 0 _ rfl
   have k122 := LT.cell 1 _ rfl
   have k123 := LU.cell 0 _ rfl
   have k124 := LU.cell 1 _ rfl
   have qa := newA wm01 (.cells #[.slice b1 p1 d1, .slice b2 p2 d2, .slice (uptoK a1 c1) m1 c1, .slice (uptoK a2 c2) m2 c2, .slice b3 p3 d3, .slice b4 p4 d4] 24)
   have LR := Has.new wm01 24 #[.slice b1 p1 d1, .slice b2 p2 d2, .slice (uptoK a1 c1) m1 c1, .slice (uptoK a2 c2) m2 c2, .slice b3 p3 d3, .slice b4 p4 d4]
   obtain ⟨V18, hV18⟩ : ∃ V18, wm01.alloc (.cells #[.slice b1 p1 d1, .slice b2 p2 d2, .slice (uptoK a1 c1) m1 c1, .slice (uptoK a2 c2) m2 c2, .slice b3 p3 d3, .slice b4 p4 d4] 24) = V18 := ⟨_, rfl⟩
   rw [hV18] at qa LR
   replace LA1 := LA1.later qa
   replace LA2 := LA2.later qa
   replace LX := LX.later qa
   replace LY := LY.later qa
   replace LS1 := LS1.later qa
   replace LS2 := LS2.later qa
   replace LS := LS.later qa
   replace LT := LT.later qa
   replace LU1 := LU1.later qa
   replace LU2 := LU2.later qa
   replace LU := LU.later qa
   replace LL := LL.later qa
   replace LV := LV.later qa
   replace LQ := LQ.later qa
   replace Lp := Lp.later qa
   replace Q := Q.trans (qa.mono Q.size)
   clear qa
   have k125 := LS.cell 0 _ rfl
   have k126 := LS.cell 1 _ rfl
   have k127 := LT.cell 0 _ rfl
   have k128 := LT.cell 1 _ rfl
   have k129 := LU.cell 0 _ rfl
   have k130 := LU.cell 1 _ rfl
   go_wp2_with fail
   generalize wm01.heap.size = gR0 at *
   clear hV18 k125 k126 k127 k128 k129 k130 k119 k120 k121 k122 k123 k124
   refine wp_loop_rounds 4 ?_
   rw [rounds_succ]
   obtain ⟨ja00, hja⟩ : ∃ l, (joinM (setN z1) (setN z2) (setN z1) (setN z2)).1 = l := ⟨_, rfl⟩
   obtain ⟨jb00, hjb⟩ : ∃ l, (joinM (setN z1) (setN z2) (setN z1) (setN z2)).2.1 = l := ⟨_, rfl⟩
   obtain ⟨jc00, hjc⟩ : ∃ l, (joinM (setN z1) (setN z2) (setN z1) (setN z2)).2.2 = l := ⟨_, rfl⟩
   have MK := hid (fun (Y : World) (i1 : SetsAt Y (.agg #[.slice b1 p1 d1, .slice b2 p2 d2]) (setN z1) (setN z2)) (i2 : SetsAt Y (.agg #[.slice b1 p1 d1, .slice b2 p2 d2]) (setN z1) (setN z2)) => (show Calls Try.prog 18 #[.agg #[.slice b1 p1 d1, .slice b2 p2 d2], .agg #[.slice b1 p1 d1, .slice b2 p2 d2]] Y (SetsP Y ja00 jb00 jc00) from by
    have h := kjoin_any Y _ _ _ _ _ _ i1 i2
    rw [hja, hjb, hjc] at h
    exact h).mono fun e w' h => h.ex)
   have RK := hid (fun (Y : World) (i1 : SetsAt Y (.agg #[.slice b1 p1 d1, .slice b2 p2 d2]) (setN z1) (setN z2)) (i2 : SetsAt Y (.agg #[.slice b1 p1 d1, .slice b2 p2 d2]) (setN z1) (setN z2)) => (show Calls Try.prog 19 #[.agg #[.slice b1 p1 d1, .slice b2 p2 d2], .agg #[.slice b1 p1 d1, .slice b2 p2 d2]] Y (SetsP Y ja00 jb00 jc00) from by
    have h := rjoin_any Y _ _ _ _ _ _ i1 i2
    rw [hja, hjb, hjc] at h
    exact h).mono fun e w' h => h.ex)
   clear hja hjb hjc
   have k131 := LR.cell 0 _ rfl
   have k132 := LR.cell 1 _ rfl
   have k133 := LR.cell 2 _ rfl
   have k134 := LR.cell 3 _ rfl
   have k135 := LR.cell 4 _ rfl
   have k136 := LR.cell 5 _ rfl
   have k137 := Lp.cell 0 _ rfl
   have k138 := Lp.cell 1 _ rfl
   have qa := newA V18 (.cells #[.slice b1 p1 d1, .slice b2 p2 d2] 24)
   have Lq := Has.new V18 24 #[.slice b1 p1 d1, .slice b2 p2 d2]
   obtain ⟨V19, hV19⟩ : ∃ V19, V18.alloc (.cells #[.slice b1 p1 d1, .slice b2 p2 d2] 24) = V19 := ⟨_, rfl⟩
   rw [hV19] at qa Lq
   replace LA1 := LA1.later qa
   replace LA2 := LA2.later qa
   replace LX := LX.later qa
   replace LY := LY.later qa
   replace LS1 := LS1.later qa
   replace LS2 := LS2.later qa
   replace LS := LS.later qa
   replace LT := LT.later qa
   replace LU1 := LU1.later qa
   replace LU2 := LU2.later qa
   replace LU := LU.later qa
   replace LL := LL.later qa
   replace LV := LV.later qa
   replace LQ := LQ.later qa
   replace Lp := Lp.later qa
   replace LR := LR.later qa
   replace Q := Q.trans (qa.mono Q.size)
   clear qa
   have k139 := LR.cell 0 _ rfl
   have k140 := LR.cell 1 _ rfl
   have k141 := LR.cell 2 _ rfl
   have k142 := LR.cell 3 _ rfl
   have k143 := LR.cell 4 _ rfl
   have k144 := LR.cell 5 _ rfl
   have k145 := Lp.cell 0 _ rfl
   have k146 := Lp.cell 1 _ rfl
   have k147 := Lq.cell 0 _ rfl
   have k148 := Lq.cell 1 _ rfl
   go_wp2_with fail
   generalize V18.heap.size = gq00 at *
   clear hV19 k139 k140 k141 k142 k143 k144 k145 k146 k147 k148 k131 k132 k133 k134 k135 k136 k137 k138
   refine (MK.out V19 ⟨_, _, rfl, LS1, LS2⟩ ⟨_, _, rfl, LS1, LS2⟩).mono ?_
   rintro _ mj00 ⟨Mx, My, rfl, LM1, LM2, q1⟩
   replace LA1 := LA1.later q1
   replace LA2 := LA2.later q1
   replace LX := LX.later q1
   replace LY := LY.later q1
   replace LS1 := LS1.later q1
   replace LS2 := LS2.later q1
   replace LS := LS.later q1
   replace LT := LT.later q1
   replace LU1 := LU1.later q1
   replace LU2 := LU2.later q1
   replace LU := LU.later q1
   replace LL := LL.later q1
   replace LV := LV.later q1
   replace LQ := LQ.later q1
   replace Lp := Lp.later q1
   replace LR := LR.later q1
   replace Lq := Lq.later q1
   replace Q := Q.trans (q1.mono Q.size)
   clear q1 MK
   obtain ⟨Mp, Mq, rfl, _, _⟩ := LM1.shape
   obtain ⟨Mr, Ms, rfl, _, _⟩ := LM2.shape
   have k149 := Lp.cell 0 _ rfl
   have k150 := Lp.cell 1 _ rfl
   have k151 := Lq.cell 0 _ rfl
   have k152 := Lq.cell 1 _ rfl
   have qa := newA mj00 (.cells #[.slice Mp ja00.length Mq, .slice Mr jb00.length Ms] 24)
   have LM := Has.new mj00 24 #[.slice Mp ja00.length Mq, .slice Mr jb00.length Ms]
   obtain ⟨V20, hV20⟩ : ∃ V20, mj00.alloc (.cells #[.slice Mp ja00.length Mq, .slice Mr jb00.length Ms] 24) = V20 := ⟨_, rfl⟩
   rw [hV20] at qa LM
   replace LA1 := LA1.later qa
   replace LA2 := LA2.later qa
   replace LX := LX.later qa
   replace LY := LY.later qa
   replace LS1 := LS1.later qa
   replace LS2 := LS2.later qa
   replace LS := LS.later qa
   replace LT := LT.later qa
   replace LU1 := LU1.later qa
   replace LU2 := LU2.later qa
   replace LU := LU.later qa
   replace LL := LL.later qa
   replace LV := LV.later qa
   replace LQ := LQ.later qa
   replace Lp := Lp.later qa
   replace LR := LR.later qa
   replace Lq := Lq.later qa
   replace LM1 := LM1.later qa
   replace LM2 := LM2.later qa
   replace Q := Q.trans (qa.mono Q.size)
   clear qa
   have k153 := Lp.cell 0 _ rfl
   have k154 := Lp.cell 1 _ rfl
   have k155 := Lq.cell 0 _ rfl
   have k156 := Lq.cell 1 _ rfl
   go_wp2_with fail
   generalize mj00.heap.size = gM00 at *
   clear hV20 k153 k154 k155 k156 k149 k150 k151 k152
   refine (RK.out V20 ⟨_, _, rfl, LS1, LS2⟩ ⟨_, _, rfl, LS1, LS2⟩).mono ?_
   rintro _ nj00 ⟨Nx, Ny, rfl, LN1, LN2, q1⟩
   replace LA1 := LA1.later q1
   replace LA2 := LA2.later q1
   replace LX := LX.later q1
   replace LY := LY.later q1
   replace LS1 := LS1.later q1
   replace LS2 := LS2.later q1
   replace LS := LS.later q1
   replace LT := LT.later q1
   replace LU1 := LU1.later q1
   replace LU2 := LU2.later q1
   replace LU := LU.later q1
   replace LL := LL.later q1
   replace LV := LV.later q1
   replace LQ := LQ.later q1
   replace Lp := Lp.later q1
   replace LR := LR.later q1
   replace Lq := Lq.later q1
   replace LM1 := LM1.later q1
   replace LM2 := LM2.later q1
   replace LM := LM.later q1
   replace Q := Q.trans (q1.mono Q.size)
   clear q1 RK
   obtain ⟨Np, Nq, rfl, _, _⟩ := LN1.shape
   obtain ⟨Nr, Ns, rfl, _, _⟩ := LN2.shape
   have qa := newA nj00 (.cells #[.slice Np ja00.length Nq, .slice Nr jb00.length Ns] 24)
   have LN := Has.new nj00 24 #[.slice Np ja00.length Nq, .slice Nr jb00.length Ns]
   obtain ⟨V21, hV21⟩ : ∃ V21, nj00.alloc (.cells #[.slice Np ja00.length Nq, .slice Nr jb00.length Ns] 24) = V21 := ⟨_, rfl⟩
   rw [hV21] at qa LN
   replace LA1 := LA1.later qa
   replace LA2 := LA2.later qa
   replace LX := LX.later qa
   replace LY := LY.later qa
   replace LS1 := LS1.later qa
   replace LS2 := LS2.later qa
   replace LS := LS.later qa
   replace LT := LT.later qa
   replace LU1 := LU1.later qa
   replace LU2 := LU2.later qa
   replace LU := LU.later qa
   replace LL := LL.later qa
   replace LV := LV.later qa
   replace LQ := LQ.later qa
   replace Lp := Lp.later qa
   replace LR := LR.later qa
   replace Lq := Lq.later qa
   replace LM1 := LM1.later qa
   replace LM2 := LM2.later qa
   replace LM := LM.later qa
   replace LN1 := LN1.later qa
   replace LN2 := LN2.later qa
   replace Q := Q.trans (qa.mono Q.size)
   clear qa
   go_wp2_with fail
   generalize nj00.heap.size = gN00 at *
   clear hV21  
   have KP := hid (sets_load Lp)
   have KQ := hid (sets_load Lq)
   have KM := hid (sets_load LM)
   have KN := hid (sets_load LN)
   have ec := clash_one (setN z1) (setN z2) (setN z1) (setN z2)
   obtain ⟨cb00, hcb⟩ : ∃ b, (oneB (setN z2) (setN z1) (setN z2) || oneB (setN z2) (setN z1) (setN z2)) = b := ⟨_, rfl⟩
   have CA := hid (show ∀ z : Ext V21, Calls Try.prog 20 #[.agg #[.slice b1 p1 d1, .slice b2 p2 d2], .agg #[.slice b1 p1 d1, .slice b2 p2 d2]] z.w (fun e w' => e = .returned (.bool cb00) ∧ ∃ x : Ext V21, w' = x.w) from fun z => by
    have h := Ext.atK (kclash_any z.w (.agg #[.slice b1 p1 d1, .slice b2 p2 d2]) (.agg #[.slice b1 p1 d1, .slice b2 p2 d2]) (setN z1) (setN z2) (setN z1) (setN z2) ⟨_, _, rfl, LS1.later z.below, LS2.later z.below⟩ ⟨_, _, rfl, LS1.later z.below, LS2.later z.below⟩ HLEN.out.1.1 HLEN.out.1.2 HLEN.out.1.1 HLEN.out.1.2)
    rw [ec, hcb] at h
    exact h)
   have CB := hid (show ∀ z : Ext V21, Calls Try.prog 21 #[.agg #[.slice b1 p1 d1, .slice b2 p2 d2], .agg #[.slice b1 p1 d1, .slice b2 p2 d2]] z.w (fun e w' => e = .returned (.bool cb00) ∧ ∃ x : Ext V21, w' = x.w) from fun z => by
    have h := Ext.atK (rclash_any z.w (.agg #[.slice b1 p1 d1, .slice b2 p2 d2]) (.agg #[.slice b1 p1 d1, .slice b2 p2 d2]) (setN z1) (setN z2) (setN z1) (setN z2) ⟨_, _, rfl, LS1.later z.below, LS2.later z.below⟩ ⟨_, _, rfl, LS1.later z.below, LS2.later z.below⟩)
    rw [hcb] at h
    exact h)
   have CC := hid (show ∀ z : Ext V21, Calls Try.prog 13 #[.agg #[.slice Mp ja00.length Mq, .slice Mr jb00.length Ms], .agg #[.slice Np ja00.length Nq, .slice Nr jb00.length Ns]] z.w (fun e w' => e = .returned (.bool true) ∧ ∃ x : Ext V21, w' = x.w) from fun z => by
    have h := Ext.atK (ksets_any z.w (.agg #[.slice Mp ja00.length Mq, .slice Mr jb00.length Ms]) (.agg #[.slice Np ja00.length Nq, .slice Nr jb00.length Ns]) ja00 jb00 ja00 jb00 ⟨_, _, rfl, LM1.later z.below, LM2.later z.below⟩ ⟨_, _, rfl, LN1.later z.below, LN2.later z.below⟩)
    rw [show (decide (ja00 = ja00) && decide (jb00 = jb00)) = true by simp] at h
    exact h)
   clear ec hcb
   try simp only [List.append]
   refine wp_region_quietL (C := Grows V21) hmx (by kernel_rfl) (grows_refl V21) ?_
   repeat (first | (with_reducible refine wpQuiet_load rfl 24 _ rfl _ rfl _ KP.out ?_; simp only [Act.put, sT, sS, sZ]) | (with_reducible refine wpQuiet_load rfl 24 _ rfl _ rfl _ KQ.out ?_; simp only [Act.put, sT, sS, sZ]) | (with_reducible refine wpQuiet_load rfl 24 _ rfl _ rfl _ KM.out ?_; simp only [Act.put, sT, sS, sZ]) | (with_reducible refine wpQuiet_load rfl 24 _ rfl _ rfl _ KN.out ?_; simp only [Act.put, sT, sS, sZ]) | (go_big_quiet_step (first | (with_reducible exact CA.out _) | (with_reducible exact CB.out _) | (with_reducible exact CC.out _))))
   refine wpQuiet_nil ?_
   rintro _ ⟨zwc00, rfl⟩
   have qa := zwc00.below
   replace LA1 := LA1.later qa
   replace LA2 := LA2.later qa
   replace LX := LX.later qa
   replace LY := LY.later qa
   replace LS1 := LS1.later qa
   replace LS2 := LS2.later qa
   replace LS := LS.later qa
   replace LT := LT.later qa
   replace LU1 := LU1.later qa
   replace LU2 := LU2.later qa
   replace LU := LU.later qa
   replace LL := LL.later qa
   replace LV := LV.later qa
   replace LQ := LQ.later qa
   replace Lp := Lp.later qa
   replace LR := LR.later qa
   replace Lq := Lq.later qa
   replace LM1 := LM1.later qa
   replace LM2 := LM2.later qa
   replace LM := LM.later qa
   replace LN1 := LN1.later qa
   replace LN2 := LN2.later qa
   replace LN := LN.later qa
   replace Q := Q.trans (qa.mono Q.size)
   clear qa
   generalize zwc00.w = wc00 at *
   clear KP KQ KM KN CA CB CC
   clear Lq LM LN LM1 LM2 LN1 LN2
   go_wp2
   rw [rounds_succ]
   obtain ⟨ja01, hja⟩ : ∃ l, (joinM (setN z1) (setN z2) (ta) (tb)).1 = l := ⟨_, rfl⟩
   obtain ⟨jb01, hjb⟩ : ∃ l, (joinM (setN z1) (setN z2) (ta) (tb)).2.1 = l := ⟨_, rfl⟩
   obtain ⟨jc01, hjc⟩ : ∃ l, (joinM (setN z1) (setN z2) (ta) (tb)).2.2 = l := ⟨_, rfl⟩
   have MK := hid (fun (Y : World) (i1 : SetsAt Y (.agg #[.slice b1 p1 d1, .slice b2 p2 d2]) (setN z1) (setN z2)) (i2 : SetsAt Y (.agg #[.slice (uptoK a1 c1) m1 c1, .slice (uptoK a2 c2) m2 c2]) (ta) (tb)) => (show Calls Try.prog 18 #[.agg #[.slice b1 p1 d1, .slice b2 p2 d2], .agg #[.slice (uptoK a1 c1) m1 c1, .slice (uptoK a2 c2) m2 c2]] Y (SetsP Y ja01 jb01 jc01) from by
    have h := kjoin_any Y _ _ _ _ _ _ i1 i2
    rw [hja, hjb, hjc] at h
    exact h).mono fun e w' h => h.ex)
   have RK := hid (fun (Y : World) (i1 : SetsAt Y (.agg #[.slice b1 p1 d1, .slice b2 p2 d2]) (setN z1) (setN z2)) (i2 : SetsAt Y (.agg #[.slice (uptoK a1 c1) m1 c1, .slice (uptoK a2 c2) m2 c2]) (ta) (tb)) => (show Calls Try.prog 19 #[.agg #[.slice b1 p1 d1, .slice b2 p2 d2], .agg #[.slice (uptoK a1 c1) m1 c1, .slice (uptoK a2 c2) m2 c2]] Y (SetsP Y ja01 jb01 jc01) from by
    have h := rjoin_any Y _ _ _ _ _ _ i1 i2
    rw [hja, hjb, hjc] at h
    exact h).mono fun e w' h => h.ex)
   clear hja hjb hjc
   have k157 := LR.cell 0 _ rfl
   have k158 := LR.cell 1 _ rfl
   have k159 := LR.cell 2 _ rfl
   have k160 := LR.cell 3 _ rfl
   have k161 := LR.cell 4 _ rfl
   have k162 := LR.cell 5 _ rfl
   have k163 := Lp.cell 0 _ rfl
   have k164 := Lp.cell 1 _ rfl
   have qa := newA wc00 (.cells #[.slice (uptoK a1 c1) m1 c1, .slice (uptoK a2 c2) m2 c2] 24)
   have Lq := Has.new wc00 24 #[.slice (uptoK a1 c1) m1 c1, .slice (uptoK a2 c2) m2 c2]
   obtain ⟨V22, hV22⟩ : ∃ V22, wc00.alloc (.cells #[.slice (uptoK a1 c1) m1 c1, .slice (uptoK a2 c2) m2 c2] 24) = V22 := ⟨_, rfl⟩
   rw [hV22] at qa Lq
   replace LA1 := LA1.later qa
   replace LA2 := LA2.later qa
   replace LX := LX.later qa
   replace LY := LY.later qa
   replace LS1 := LS1.later qa
   replace LS2 := LS2.later qa
   replace LS := LS.later qa
   replace LT := LT.later qa
   replace LU1 := LU1.later qa
   replace LU2 := LU2.later qa
   replace LU := LU.later qa
   replace LL := LL.later qa
   replace LV := LV.later qa
   replace LQ := LQ.later qa
   replace Lp := Lp.later qa
   replace LR := LR.later qa
   replace Q := Q.trans (qa.mono Q.size)
   clear qa
   have k165 := LR.cell 0 _ rfl
   have k166 := LR.cell 1 _ rfl
   have k167 := LR.cell 2 _ rfl
   have k168 := LR.cell 3 _ rfl
   have k169 := LR.cell 4 _ rfl
   have k170 := LR.cell 5 _ rfl
   have k171 := Lp.cell 0 _ rfl
   have k172 := Lp.cell 1 _ rfl
   have k173 := Lq.cell 0 _ rfl
   have k174 := Lq.cell 1 _ rfl
   go_wp2_with fail
   generalize wc00.heap.size = gq01 at *
   clear hV22 k165 k166 k167 k168 k169 k170 k171 k172 k173 k174 k157 k158 k159 k160 k161 k162 k163 k164
   refine (MK.out V22 ⟨_, _, rfl, LS1, LS2⟩ ⟨_, _, rfl, LA1, LA2⟩).mono ?_
   rintro _ mj01 ⟨Mx, My, rfl, LM1, LM2, q1⟩
   replace LA1 := LA1.later q1
   replace LA2 := LA2.later q1
   replace LX := LX.later q1
   replace LY := LY.later q1
   replace LS1 := LS1.later q1
   replace LS2 := LS2.later q1
   replace LS := LS.later q1
   replace LT := LT.later q1
   replace LU1 := LU1.later q1
   replace LU2 := LU2.later q1
   replace LU := LU.later q1
   replace LL := LL.later q1
   replace LV := LV.later q1
   replace LQ := LQ.later q1
   replace Lp := Lp.later q1
   replace LR := LR.later q1
   replace Lq := Lq.later q1
   replace Q := Q.trans (q1.mono Q.size)
   clear q1 MK
   obtain ⟨Mp, Mq, rfl, _, _⟩ := LM1.shape
   obtain ⟨Mr, Ms, rfl, _, _⟩ := LM2.shape
   have k175 := Lp.cell 0 _ rfl
   have k176 := Lp.cell 1 _ rfl
   have k177 := Lq.cell 0 _ rfl
   have k178 := Lq.cell 1 _ rfl
   have qa := newA mj01 (.cells #[.slice Mp ja01.length Mq, .slice Mr jb01.length Ms] 24)
   have LM := Has.new mj01 24 #[.slice Mp ja01.length Mq, .slice Mr jb01.length Ms]
   obtain ⟨V23, hV23⟩ : ∃ V23, mj01.alloc (.cells #[.slice Mp ja01.length Mq, .slice Mr jb01.length Ms] 24) = V23 := ⟨_, rfl⟩
   rw [hV23] at qa LM
   replace LA1 := LA1.later qa
   replace LA2 := LA2.later qa
   replace LX := LX.later qa
   replace LY := LY.later qa
   replace LS1 := LS1.later qa
   replace LS2 := LS2.later qa
   replace LS := LS.later qa
   replace LT := LT.later qa
   replace LU1 := LU1.later qa
   replace LU2 := LU2.later qa
   replace LU := LU.later qa
   replace LL := LL.later qa
   replace LV := LV.later qa
   replace LQ := LQ.later qa
   replace Lp := Lp.later qa
   replace LR := LR.later qa
   replace Lq := Lq.later qa
   replace LM1 := LM1.later qa
   replace LM2 := LM2.later qa
   replace Q := Q.trans (qa.mono Q.size)
   clear qa
   have k179 := Lp.cell 0 _ rfl
   have k180 := Lp.cell 1 _ rfl
   have k181 := Lq.cell 0 _ rfl
   have k182 := Lq.cell 1 _ rfl
   go_wp2_with fail
   generalize mj01.heap.size = gM01 at *
   clear hV23 k179 k180 k181 k182 k175 k176 k177 k178
   refine (RK.out V23 ⟨_, _, rfl, LS1, LS2⟩ ⟨_, _, rfl, LA1, LA2⟩).mono ?_
   rintro _ nj01 ⟨Nx, Ny, rfl, LN1, LN2, q1⟩
   replace LA1 := LA1.later q1
   replace LA2 := LA2.later q1
   replace LX := LX.later q1
   replace LY := LY.later q1
   replace LS1 := LS1.later q1
   replace LS2 := LS2.later q1
   replace LS := LS.later q1
   replace LT := LT.later q1
   replace LU1 := LU1.later q1
   replace LU2 := LU2.later q1
   replace LU := LU.later q1
   replace LL := LL.later q1
   replace LV := LV.later q1
   replace LQ := LQ.later q1
   replace Lp := Lp.later q1
   replace LR := LR.later q1
   replace Lq := Lq.later q1
   replace LM1 := LM1.later q1
   replace LM2 := LM2.later q1
   replace LM := LM.later q1
   replace Q := Q.trans (q1.mono Q.size)
   clear q1 RK
   obtain ⟨Np, Nq, rfl, _, _⟩ := LN1.shape
   obtain ⟨Nr, Ns, rfl, _, _⟩ := LN2.shape
   have qa := newA nj01 (.cells #[.slice Np ja01.length Nq, .slice Nr jb01.length Ns] 24)
   have LN := Has.new nj01 24 #[.slice Np ja01.length Nq, .slice Nr jb01.length Ns]
   obtain ⟨V24, hV24⟩ : ∃ V24, nj01.alloc (.cells #[.slice Np ja01.length Nq, .slice Nr jb01.length Ns] 24) = V24 := ⟨_, rfl⟩
   rw [hV24] at qa LN
   replace LA1 := LA1.later qa
   replace LA2 := LA2.later qa
   replace LX := LX.later qa
   replace LY := LY.later qa
   replace LS1 := LS1.later qa
   replace LS2 := LS2.later qa
   replace LS := LS.later qa
   replace LT := LT.later qa
   replace LU1 := LU1.later qa
   replace LU2 := LU2.later qa
   replace LU := LU.later qa
   replace LL := LL.later qa
   replace LV := LV.later qa
   replace LQ := LQ.later qa
   replace Lp := Lp.later qa
   replace LR := LR.later qa
   replace Lq := Lq.later qa
   replace LM1 := LM1.later qa
   replace LM2 := LM2.later qa
   replace LM := LM.later qa
   replace LN1 := LN1.later qa
   replace LN2 := LN2.later qa
   replace Q := Q.trans (qa.mono Q.size)
   clear qa
   go_wp2_with fail
   generalize nj01.heap.size = gN01 at *
   clear hV24  
   have KP := hid (sets_load Lp)
   have KQ := hid (sets_load Lq)
   have KM := hid (sets_load LM)
   have KN := hid (sets_load LN)
   have ec := clash_one (setN z1) (setN z2) (ta) (tb)
   obtain ⟨cb01, hcb⟩ : ∃ b, (oneB (setN z2) (ta) (tb) || oneB (tb) (setN z1) (setN z2)) = b := ⟨_, rfl⟩
   have CA := hid (show ∀ z : Ext V24, Calls Try.prog 20 #[.agg #[.slice b1 p1 d1, .slice b2 p2 d2], .agg #[.slice (uptoK a1 c1) m1 c1, .slice (uptoK a2 c2) m2 c2]] z.w (fun e w' => e = .returned (.bool cb01) ∧ ∃ x : Ext V24, w' = x.w) from fun z => by
    have h := Ext.atK (kclash_any z.w (.agg #[.slice b1 p1 d1, .slice b2 p2 d2]) (.agg #[.slice (uptoK a1 c1) m1 c1, .slice (uptoK a2 c2) m2 c2]) (setN z1) (setN z2) (ta) (tb) ⟨_, _, rfl, LS1.later z.below, LS2.later z.below⟩ ⟨_, _, rfl, LA1.later z.below, LA2.later z.below⟩ HLEN.out.1.1 HLEN.out.1.2 HLEN.out.2.1.2 HLEN.out.2.2.1)
    rw [ec, hcb] at h
    exact h)
   have CB := hid (show ∀ z : Ext V24, Calls Try.prog 21 #[.agg #[.slice b1 p1 d1, .slice b2 p2 d2], .agg #[.slice (uptoK a1 c1) m1 c1, .slice (uptoK a2 c2) m2 c2]] z.w (fun e w' => e = .returned (.bool cb01) ∧ ∃ x : Ext V24, w' = x.w) from fun z => by
    have h := Ext.atK (rclash_any z.w (.agg #[.slice b1 p1 d1, .slice b2 p2 d2]) (.agg #[.slice (uptoK a1 c1) m1 c1, .slice (uptoK a2 c2) m2 c2]) (setN z1) (setN z2) (ta) (tb) ⟨_, _, rfl, LS1.later z.below, LS2.later z.below⟩ ⟨_, _, rfl, LA1.later z.below, LA2.later z.below⟩)
    rw [hcb] at h
    exact h)
   have CC := hid (show ∀ z : Ext V24, Calls Try.prog 13 #[.agg #[.slice Mp ja01.length Mq, .slice Mr jb01.length Ms], .agg #[.slice Np ja01.length Nq, .slice Nr jb01.length Ns]] z.w (fun e w' => e = .returned (.bool true) ∧ ∃ x : Ext V24, w' = x.w) from fun z => by
    have h := Ext.atK (ksets_any z.w (.agg #[.slice Mp ja01.length Mq, .slice Mr jb01.length Ms]) (.agg #[.slice Np ja01.length Nq, .slice Nr jb01.length Ns]) ja01 jb01 ja01 jb01 ⟨_, _, rfl, LM1.later z.below, LM2.later z.below⟩ ⟨_, _, rfl, LN1.later z.below, LN2.later z.below⟩)
    rw [show (decide (ja01 = ja01) && decide (jb01 = jb01)) = true by simp] at h
    exact h)
   clear ec hcb
   try simp only [List.append]
   refine wp_region_quietL (C := Grows V24) hmx (by kernel_rfl) (grows_refl V24) ?_
   repeat (first | (with_reducible refine wpQuiet_load rfl 24 _ rfl _ rfl _ KP.out ?_; simp only [Act.put, sT, sS, sZ]) | (with_reducible refine wpQuiet_load rfl 24 _ rfl _ rfl _ KQ.out ?_; simp only [Act.put, sT, sS, sZ]) | (with_reducible refine wpQuiet_load rfl 24 _ rfl _ rfl _ KM.out ?_; simp only [Act.put, sT, sS, sZ]) | (with_reducible refine wpQuiet_load rfl 24 _ rfl _ rfl _ KN.out ?_; simp only [Act.put, sT, sS, sZ]) | (go_big_quiet_step (first | (with_reducible exact CA.out _) | (with_reducible exact CB.out _) | (with_reducible exact CC.out _))))
   refine wpQuiet_nil ?_
   rintro _ ⟨zwc01, rfl⟩
   have qa := zwc01.below
   replace LA1 := LA1.later qa
   replace LA2 := LA2.later qa
   replace LX := LX.later qa
   replace LY := LY.later qa
   replace LS1 := LS1.later qa
   replace LS2 := LS2.later qa
   replace LS := LS.later qa
   replace LT := LT.later qa
   replace LU1 := LU1.later qa
   replace LU2 := LU2.later qa
   replace LU := LU.later qa
   replace LL := LL.later qa
   replace LV := LV.later qa
   replace LQ := LQ.later qa
   replace Lp := Lp.later qa
   replace LR := LR.later qa
   replace Lq := Lq.later qa
   replace LM1 := LM1.later qa
   replace LM2 := LM2.later qa
   replace LM := LM.later qa
   replace LN1 := LN1.later qa
   replace LN2 := LN2.later qa
   replace LN := LN.later qa
   replace Q := Q.trans (qa.mono Q.size)
   clear qa
   generalize zwc01.w = wc01 at *
   clear KP KQ KM KN CA CB CC
   clear Lq LM LN LM1 LM2 LN1 LN2
   go_wp2
   rw [rounds_succ]
   obtain ⟨ja02, hja⟩ : ∃ l, (joinM (setN z1) (setN z2) (setN z2) (setN [])).1 = l := ⟨_, rfl⟩
   obtain ⟨jb02, hjb⟩ : ∃ l, (joinM (setN z1) (setN z2) (setN z2) (setN [])).2.1 = l := ⟨_, rfl⟩
   obtain ⟨jc02, hjc⟩ : ∃ l, (joinM (setN z1) (setN z2) (setN z2) (setN [])).2.2 = l := ⟨_, rfl⟩
   have MK := hid (fun (Y : World) (i1 : SetsAt Y (.agg #[.slice b1 p1 d1, .slice b2 p2 d2]) (setN z1) (setN z2)) (i2 : SetsAt Y (.agg #[.slice b3 p3 d3, .slice b4 p4 d4]) (setN z2) (setN [])) => (show Calls Try.prog 18 #[.agg #[.slice b1 p1 d1, .slice b2 p2 d2], .agg #[.slice b3 p3 d3, .slice b4 p4 d4]] Y (SetsP Y ja02 jb02 jc02) from by
    have h := kjoin_any Y _ _ _ _ _ _ i1 i2
    rw [hja, hjb, hjc] at h
    exact h).mono fun e w' h => h.ex)
   have RK := hid (fun (Y : World) (i1 : SetsAt Y (.agg #[.slice b1 p1 d1, .slice b2 p2 d2]) (setN z1) (setN z2)) (i2 : SetsAt Y (.agg #[.slice b3 p3 d3, .slice b4 p4 d4]) (setN z2) (setN [])) => (show Calls Try.prog 19 #[.agg #[.slice b1 p1 d1, .slice b2 p2 d2], .agg #[.slice b3 p3 d3, .slice b4 p4 d4]] Y (SetsP Y ja02 jb02 jc02) from by
    have h := rjoin_any Y _ _ _ _ _ _ i1 i2
    rw [hja, hjb, hjc] at h
    exact h).mono fun e w' h => h.ex)
   clear hja hjb hjc
   have k183 := LR.cell 0 _ rfl
   have k184 := LR.cell 1 _ rfl
   have k185 := LR.cell 2 _ rfl
   have k186 := LR.cell 3 _ rfl
   have k187 := LR.cell 4 _ rfl
   have k188 := LR.cell 5 _ rfl
   have k189 := Lp.cell 0 _ rfl
   have k190 := Lp.cell 1 _ rfl
   have qa := newA wc01 (.cells #[.slice b3 p3 d3, .slice b4 p4 d4] 24)
   have Lq := Has.new wc01 24 #[.slice b3 p3 d3, .slice b4 p4 d4]
   obtain ⟨V25, hV25⟩ : ∃ V25, wc01.alloc (.cells #[.slice b3 p3 d3, .slice b4 p4 d4] 24) = V25 := ⟨_, rfl⟩
   rw [hV25] at qa Lq
   replace LA1 := LA1.later qa
   replace LA2 := LA2.later qa
   replace LX := LX.later qa
   replace LY := LY.later qa
   replace LS1 := LS1.later qa
   replace LS2 := LS2.later qa
   replace LS := LS.later qa
   replace LT := LT.later qa
   replace LU1 := LU1.later qa
   replace LU2 := LU2.later qa
   replace LU := LU.later qa
   replace LL := LL.later qa
   replace LV := LV.later qa
   replace LQ := LQ.later qa
   replace Lp := Lp.later qa
   replace LR := LR.later qa
   replace Q := Q.trans (qa.mono Q.size)
   clear qa
   have k191 := LR.cell 0 _ rfl
   have k192 := LR.cell 1 _ rfl
   have k193 := LR.cell 2 _ rfl
   have k194 := LR.cell 3 _ rfl
   have k195 := LR.cell 4 _ rfl
   have k196 := LR.cell 5 _ rfl
   have k197 := Lp.cell 0 _ rfl
   have k198 := Lp.cell 1 _ rfl
   have k199 := Lq.cell 0 _ rfl
   have k200 := Lq.cell 1 _ rfl
   go_wp2_with fail
   generalize wc01.heap.size = gq02 at *
   clear hV25 k191 k192 k193 k194 k195 k196 k197 k198 k199 k200 k183 k184 k185 k186 k187 k188 k189 k190
   refine (MK.out V25 ⟨_, _, rfl, LS1, LS2⟩ ⟨_, _, rfl, LU1, LU2⟩).mono ?_
   rintro _ mj02 ⟨Mx, My, rfl, LM1, LM2, q1⟩
   replace LA1 := LA1.later q1
   replace LA2 := LA2.later q1
   replace LX := LX.later q1
   replace LY := LY.later q1
   replace LS1 := LS1.later q1
   replace LS2 := LS2.later q1
   replace LS := LS.later q1
   replace LT := LT.later q1
   replace LU1 := LU1.later q1
   replace LU2 := LU2.later q1
   replace LU := LU.later q1
   replace LL := LL.later q1
   replace LV := LV.later q1
   replace LQ := LQ.later q1
   replace Lp := Lp.later q1
   replace LR := LR.later q1
   replace Lq := Lq.later q1
   replace Q := Q.trans (q1.mono Q.size)
   clear q1 MK
   obtain ⟨Mp, Mq, rfl, _, _⟩ := LM1.shape
   obtain ⟨Mr, Ms, rfl, _, _⟩ := LM2.shape
   have k201 := Lp.cell 0 _ rfl
   have k202 := Lp.cell 1 _ rfl
   have k203 := Lq.cell 0 _ rfl
   have k204 := Lq.cell 1 _ rfl
   have qa := newA mj02 (.cells #[.slice Mp ja02.length Mq, .slice Mr jb02.length Ms] 24)
   have LM := Has.new mj02 24 #[.slice Mp ja02.length Mq, .slice Mr jb02.length Ms]
   obtain ⟨V26, hV26⟩ : ∃ V26, mj02.alloc (.cells #[.slice Mp ja02.length Mq, .slice Mr jb02.length Ms] 24) = V26 := ⟨_, rfl⟩
   rw [hV26] at qa LM
   replace LA1 := LA1.later qa
   replace LA2 := LA2.later qa
   replace LX := LX.later qa
   replace LY := LY.later qa
   replace LS1 := LS1.later qa
   replace LS2 := LS2.later qa
   replace LS := LS.later qa
   replace LT := LT.later qa
   replace LU1 := LU1.later qa
   replace LU2 := LU2.later qa
   replace LU := LU.later qa
   replace LL := LL.later qa
   replace LV := LV.later qa
   replace LQ := LQ.later qa
   replace Lp := Lp.later qa
   replace LR := LR.later qa
   replace Lq := Lq.later qa
   replace LM1 := LM1.later qa
   replace LM2 := LM2.later qa
   replace Q := Q.trans (qa.mono Q.size)
   clear qa
   have k205 := Lp.cell 0 _ rfl
   have k206 := Lp.cell 1 _ rfl
   have k207 := Lq.cell 0 _ rfl
   have k208 := Lq.cell 1 _ rfl
   go_wp2_with fail
   generalize mj02.heap.size = gM02 at *
   clear hV26 k205 k206 k207 k208 k201 k202 k203 k204
   refine (RK.out V26 ⟨_, _, rfl, LS1, LS2⟩ ⟨_, _, rfl, LU1, LU2⟩).mono ?_
   rintro _ nj02 ⟨Nx, Ny, rfl, LN1, LN2, q1⟩
   replace LA1 := LA1.later q1
   replace LA2 := LA2.later q1
   replace LX := LX.later q1
   replace LY := LY.later q1
   replace LS1 := LS1.later q1
   replace LS2 := LS2.later q1
   replace LS := LS.later q1
   replace LT := LT.later q1
   replace LU1 := LU1.later q1
   replace LU2 := LU2.later q1
   replace LU := LU.later q1
   replace LL := LL.later q1
   replace LV := LV.later q1
   replace LQ := LQ.later q1
   replace Lp := Lp.later q1
   replace LR := LR.later q1
   replace Lq := Lq.later q1
   replace LM1 := LM1.later q1
   replace LM2 := LM2.later q1
   replace LM := LM.later q1
   replace Q := Q.trans (q1.mono Q.size)
   clear q1 RK
   obtain ⟨Np, Nq, rfl, _, _⟩ := LN1.shape
   obtain ⟨Nr, Ns, rfl, _, _⟩ := LN2.shape
   have qa := newA nj02 (.cells #[.slice Np ja02.length Nq, .slice Nr jb02.length Ns] 24)
   have LN := Has.new nj02 24 #[.slice Np ja02.length Nq, .slice Nr jb02.length Ns]
   obtain ⟨V27, hV27⟩ : ∃ V27, nj02.alloc (.cells #[.slice Np ja02.length Nq, .slice Nr jb02.length Ns] 24) = V27 := ⟨_, rfl⟩
   rw [hV27] at qa LN
   replace LA1 := LA1.later qa
   replace LA2 := LA2.later qa
   replace LX := LX.later qa
   replace LY := LY.later qa
   replace LS1 := LS1.later qa
   replace LS2 := LS2.later qa
   replace LS := LS.later qa
   replace LT := LT.later qa
   replace LU1 := LU1.later qa
   replace LU2 := LU2.later qa
   replace LU := LU.later qa
   replace LL := LL.later qa
   replace LV := LV.later qa
   replace LQ := LQ.later qa
   replace Lp := Lp.later qa
   replace LR := LR.later qa
   replace Lq := Lq.later qa
   replace LM1 := LM1.later qa
   replace LM2 := LM2.later qa
   replace LM := LM.later qa
   replace LN1 := LN1.later qa
   replace LN2 := LN2.later qa
   replace Q := Q.trans (qa.mono Q.size)
   clear qa
   go_wp2_with fail
   generalize nj02.heap.size = gN02 at *
   clear hV27  
   have KP := hid (sets_load Lp)
   have KQ := hid (sets_load Lq)
   have KM := hid (sets_load LM)
   have KN := hid (sets_load LN)
   have ec := clash_one (setN z1) (setN z2) (setN z2) (setN [])
   obtain ⟨cb02, hcb⟩ : ∃ b, (oneB (setN z2) (setN z2) (setN []) || oneB (setN []) (setN z1) (setN z2)) = b := ⟨_, rfl⟩
   have CA := hid (show ∀ z : Ext V27, Calls Try.prog 20 #[.agg #[.slice b1 p1 d1, .slice b2 p2 d2], .agg #[.slice b3 p3 d3, .slice b4 p4 d4]] z.w (fun e w' => e = .returned (.bool cb02) ∧ ∃ x : Ext V27, w' = x.w) from fun z => by
    have h := Ext.atK (kclash_any z.w (.agg #[.slice b1 p1 d1, .slice b2 p2 d2]) (.agg #[.slice b3 p3 d3, .slice b4 p4 d4]) (setN z1) (setN z2) (setN z2) (setN []) ⟨_, _, rfl, LS1.later z.below, LS2.later z.below⟩ ⟨_, _, rfl, LU1.later z.below, LU2.later z.below⟩ HLEN.out.1.1 HLEN.out.1.2 HLEN.out.1.2 HLEN.out.2.1.1)
    rw [ec, hcb] at h
    exact h)
   have CB := hid (show ∀ z : Ext V27, Calls Try.prog 21 #[.agg #[.slice b1 p1 d1, .slice b2 p2 d2], .agg #[.slice b3 p3 d3, .slice b4 p4 d4]] z.w (fun e w' => e = .returned (.bool cb02) ∧ ∃ x : Ext V27, w' = x.w) from fun z => by
    have h := Ext.atK (rclash_any z.w (.agg #[.slice b1 p1 d1, .slice b2 p2 d2]) (.agg #[.slice b3 p3 d3, .slice b4 p4 d4]) (setN z1) (setN z2) (setN z2) (setN []) ⟨_, _, rfl, LS1.later z.below, LS2.later z.below⟩ ⟨_, _, rfl, LU1.later z.below, LU2.later z.below⟩)
    rw [hcb] at h
    exact h)
   have CC := hid (show ∀ z : Ext V27, Calls Try.prog 13 #[.agg #[.slice Mp ja02.length Mq, .slice Mr jb02.length Ms], .agg #[.slice Np ja02.length Nq, .slice Nr jb02.length Ns]] z.w (fun e w' => e = .returned (.bool true) ∧ ∃ x : Ext V27, w' = x.w) from fun z => by
    have h := Ext.atK (ksets_any z.w (.agg #[.slice Mp ja02.length Mq, .slice Mr jb02.length Ms]) (.agg #[.slice Np ja02.length Nq, .slice Nr jb02.length Ns]) ja02 jb02 ja02 jb02 ⟨_, _, rfl, LM1.later z.below, LM2.later z.below⟩ ⟨_, _, rfl, LN1.later z.below, LN2.later z.below⟩)
    rw [show (decide (ja02 = ja02) && decide (jb02 = jb02)) = true by simp] at h
    exact h)
   clear ec hcb
   try simp only [List.append]
   refine wp_region_quietL (C := Grows V27) hmx (by kernel_rfl) (grows_refl V27) ?_
   repeat (first | (with_reducible refine wpQuiet_load rfl 24 _ rfl _ rfl _ KP.out ?_; simp only [Act.put, sT, sS, sZ]) | (with_reducible refine wpQuiet_load rfl 24 _ rfl _ rfl _ KQ.out ?_; simp only [Act.put, sT, sS, sZ]) | (with_reducible refine wpQuiet_load rfl 24 _ rfl _ rfl _ KM.out ?_; simp only [Act.put, sT, sS, sZ]) | (with_reducible refine wpQuiet_load rfl 24 _ rfl _ rfl _ KN.out ?_; simp only [Act.put, sT, sS, sZ]) | (go_big_quiet_step (first | (with_reducible exact CA.out _) | (with_reducible exact CB.out _) | (with_reducible exact CC.out _))))
   refine wpQuiet_nil ?_
   rintro _ ⟨zwc02, rfl⟩
   have qa := zwc02.below
   replace LA1 := LA1.later qa
   replace LA2 := LA2.later qa
   replace LX := LX.later qa
   replace LY := LY.later qa
   replace LS1 := LS1.later qa
   replace LS2 := LS2.later qa
   replace LS := LS.later qa
   replace LT := LT.later qa
   replace LU1 := LU1.later qa
   replace LU2 := LU2.later qa
   replace LU := LU.later qa
   replace LL := LL.later qa
   replace LV := LV.later qa
   replace LQ := LQ.later qa
   replace Lp := Lp.later qa
   replace LR := LR.later qa
   replace Lq := Lq.later qa
   replace LM1 := LM1.later qa
   replace LM2 := LM2.later qa
   replace LM := LM.later qa
   replace LN1 := LN1.later qa
   replace LN2 := LN2.later qa
   replace LN := LN.later qa
   replace Q := Q.trans (qa.mono Q.size)
   clear qa
   generalize zwc02.w = wc02 at *
   clear KP KQ KM KN CA CB CC
   clear Lq LM LN LM1 LM2 LN1 LN2
   go_wp2
   rw [rounds_succ]
   clear LR Lp
   go_wp2
   rw [rounds_succ]
   have k209 := LQ.cell 0 _ rfl
   have k210 := LQ.cell 1 _ rfl
   have k211 := LQ.cell 2 _ rfl
   have k212 := LQ.cell 3 _ rfl
   have k213 := LQ.cell 4 _ rfl
   have k214 := LQ.cell 5 _ rfl
   have qa := newA wc02 (.cells #[.slice (uptoK a1 c1) m1 c1, .slice (uptoK a2 c2) m2 c2] 24)
   have Lp := Has.new wc02 24 #[.slice (uptoK a1 c1) m1 c1, .slice (uptoK a2 c2) m2 c2]
   obtain ⟨V28, hV28⟩ : ∃ V28, wc02.alloc (.cells #[.slice (uptoK a1 c1) m1 c1, .slice (uptoK a2 c2) m2 c2] 24) = V28 := ⟨_, rfl⟩
   rw [hV28] at qa Lp
   replace LA1 := LA1.later qa
   replace LA2 := LA2.later qa
   replace LX := LX.later qa
   replace LY := LY.later qa
   replace LS1 := LS1.later qa
   replace LS2 := LS2.later qa
   replace LS := LS.later qa
   replace LT := LT.later qa
   replace LU1 := LU1.later qa
   replace LU2 := LU2.later qa
   replace LU := LU.later qa
   replace LL := LL.later qa
   replace LV := LV.later qa
   replace LQ := LQ.later qa
   replace Q := Q.trans (qa.mono Q.size)
   clear qa
   have k215 := LQ.cell 0 _ rfl
   have k216 := LQ.cell 1 _ rfl
   have k217 := LQ.cell 2 _ rfl
   have k218 := LQ.cell 3 _ rfl
   have k219 := LQ.cell 4 _ rfl
   have k220 := LQ.cell 5 _ rfl
   go_wp2_with fail
   generalize wc02.heap.size = gp1 at *
   clear hV28 k215 k216 k217 k218 k219 k220 k209 k210 k211 k212 k213 k214
   have KP := hid (sets_load Lp)
   have KA := hid (fun z : Ext V28 => Ext.atK (kright_any z.w (.agg #[.slice (uptoK a1 c1) m1 c1, .slice (uptoK a2 c2) m2 c2]) (ta) (tb) ⟨_, _, rfl, LA1.later z.below, LA2.later z.below⟩))
   have KB := hid (fun z : Ext V28 => Ext.atK (rRight_any z.w (.agg #[.slice (uptoK a1 c1) m1 c1, .slice (uptoK a2 c2) m2 c2]) (ta) (tb) ⟨_, _, rfl, LA1.later z.below, LA2.later z.below⟩))
   generalize (fitB (ta) && fitB (tb)) = fb1 at *
   try simp only [List.append]
   refine wp_region_quietL (C := Grows V28) hmx (by kernel_rfl) (grows_refl V28) ?_
   repeat (first | (with_reducible refine wpQuiet_load rfl 24 _ rfl _ rfl _ KP.out ?_; simp only [Act.put, sT, sS, sZ]) | (go_big_quiet_step (first | (with_reducible exact KA.out _) | (with_reducible exact KB.out _))))
   refine wpQuiet_nil ?_
   rintro _ ⟨zwr1, rfl⟩
   have qa := zwr1.below
   replace LA1 := LA1.later qa
   replace LA2 := LA2.later qa
   replace LX := LX.later qa
   replace LY := LY.later qa
   replace LS1 := LS1.later qa
   replace LS2 := LS2.later qa
   replace LS := LS.later qa
   replace LT := LT.later qa
   replace LU1 := LU1.later qa
   replace LU2 := LU2.later qa
   replace LU := LU.later qa
   replace LL := LL.later qa
   replace LV := LV.later qa
   replace LQ := LQ.later qa
   replace Lp := Lp.later qa
   replace Q := Q.trans (qa.mono Q.size)
   clear qa
   generalize zwr1.w = wr1 at *
   clear KP KA KB
   have kx := LX.kyLoad
   have ky := LY.kyLoad
   have qa := newA wr1 (.cells (flatKy [x, y]).toArray 31)
   have LK := keys_made wr1 [x, y] (by intro z hz; simp at hz; rcases hz with rfl | rfl; exact HX.out; exact HY.out) (by simp)
   obtain ⟨V29, hV29⟩ : ∃ V29, wr1.alloc (.cells (flatKy [x, y]).toArray 31) = V29 := ⟨_, rfl⟩
   rw [hV29] at qa LK
   replace LA1 := LA1.later qa
   replace LA2 := LA2.later qa
   replace LX := LX.later qa
   replace LY := LY.later qa
   replace LS1 := LS1.later qa
   replace LS2 := LS2.later qa
   replace LS := LS.later qa
   replace LT := LT.later qa
   replace LU1 := LU1.later qa
   replace LU2 := LU2.later qa
   replace LU := LU.later qa
   replace LL := LL.later qa
   replace LV := LV.later qa
   replace LQ := LQ.later qa
   replace Lp := Lp.later qa
   replace Q := Q.trans (qa.mono Q.size)
   clear qa
   go_wp2_with (first | (refine wpList_load_known rfl _ (.tmp 7) rfl _ rfl _ kx ?_) | (refine wpList_load_known rfl _ (.tmp 8) rfl _ rfl _ ky ?_) | (refine wpList_build_k2 rfl (.tmp 145) (.tmp 146) rfl x y rfl rfl ?_))
   generalize wr1.heap.size = gK1 at *
   try rw [hV29]
   clear hV29 kx ky
   refine wp_loop_rounds 3 ?_
   rw [rounds_succ]
   have hk0 : (loadVar 31 ⟨gK1, 0, none⟩).run Try.prog V29 = .ok (.agg (kyC x)) V29 := by
    have h := (LK.in (i := 0) rfl).load
    rw [add_lit] at h
    exact h
   have HZ := Has.new V29 31 #[.int .u8 0, .int .u8 0, .int .u8 0, .int .u8 0, .int .u8 0, .int .u8 0, .int .u8 0, .int .u8 0, .int .u8 0, .int .u8 0, .int .u8 0, .int .u8 0, .int .u8 0, .int .u8 0, .int .u8 0, .int .u8 0, .int .u8 0, .int .u8 0, .int .u8 0, .int .u8 0, .bool false, .int .u64 0, .int .u64 0, .int .u64 0, .int .u64 0]
   have qa := below_rowK (newA V29 (.cells #[.int .u8 0, .int .u8 0, .int .u8 0, .int .u8 0, .int .u8 0, .int .u8 0, .int .u8 0, .int .u8 0, .int .u8 0, .int .u8 0, .int .u8 0, .int .u8 0, .int .u8 0, .int .u8 0, .int .u8 0, .int .u8 0, .int .u8 0, .int .u8 0, .int .u8 0, .int .u8 0, .bool false, .int .u64 0, .int .u64 0, .int .u64 0, .int .u64 0] 31)) (g := V29.heap.size) (Nat.le_refl _) (kyC x)
   have Lk : Has ((V29.alloc (.cells #[.int .u8 0, .int .u8 0, .int .u8 0, .int .u8 0, .int .u8 0, .int .u8 0, .int .u8 0, .int .u8 0, .int .u8 0, .int .u8 0, .int .u8 0, .int .u8 0, .int .u8 0, .int .u8 0, .int .u8 0, .int .u8 0, .int .u8 0, .int .u8 0, .int .u8 0, .int .u8 0, .bool false, .int .u64 0, .int .u64 0, .int .u64 0, .int .u64 0] 31)).setRow V29.heap.size (kyC x)) V29.heap.size 31 (kyC x) := setRow_heap _ _ _ _ _ _ HZ
   have HI : (Try.prog.info? 31).map (·.size) = some (kyC x).size := by rw [kyC_size]; exact infoKy
   have HI := hid HI
   have HSZ := hid (show (#[.int .u8 0, .int .u8 0, .int .u8 0, .int .u8 0, .int .u8 0, .int .u8 0, .int .u8 0, .int .u8 0, .int .u8 0, .int .u8 0, .int .u8 0, .int .u8 0, .int .u8 0, .int .u8 0, .int .u8 0, .int .u8 0, .int .u8 0, .int .u8 0, .int .u8 0, .int .u8 0, .bool false, .int .u64 0, .int .u64 0, .int .u64 0, .int .u64 0] : Array Value).size = (kyC x).size by rw [kyC_size]; rfl)
   have HON := hid (kyC_one x)
   have HZ := hid HZ
   obtain ⟨V30, hV30⟩ : ∃ V30, (V29.alloc (.cells #[.int .u8 0, .int .u8 0, .int .u8 0, .int .u8 0, .int .u8 0, .int .u8 0, .int .u8 0, .int .u8 0, .int .u8 0, .int .u8 0, .int .u8 0, .int .u8 0, .int .u8 0, .int .u8 0, .int .u8 0, .int .u8 0, .int .u8 0, .int .u8 0, .int .u8 0, .int .u8 0, .bool false, .int .u64 0, .int .u64 0, .int .u64 0, .int .u64 0] 31)).setRow V29.heap.size (kyC x) = V30 := ⟨_, rfl⟩
   rw [hV30] at qa Lk
   replace LA1 := LA1.later qa
   replace LA2 := LA2.later qa
   replace LX := LX.later qa
   replace LY := LY.later qa
   replace LS1 := LS1.later qa
   replace LS2 := LS2.later qa
   replace LS := LS.later qa
   replace LT := LT.later qa
   replace LU1 := LU1.later qa
   replace LU2 := LU2.later qa
   replace LU := LU.later qa
   replace LL := LL.later qa
   replace LV := LV.later qa
   replace LQ := LQ.later qa
   replace Lp := Lp.later qa
   replace LK := LK.later qa
   replace Q := Q.trans (qa.mono Q.size)
   clear qa
   have HV30 := hid hV30
   clear hV30
   go_wp2_with (first | (refine wpList_load_known rfl _ (.tmp 151) rfl _ rfl _ hk0 ?_) | (refine wpList_store_row rfl _ (.tmp 29) (.tmp 152) rfl _ _ rfl rfl _ _ HZ.out HI.out HSZ.out HON.out ?_))
   generalize V29.heap.size = gk10 at *
   try rw [HV30.out]
   clear HV30 HZ HI HSZ HON hk0
   have KP := hid (sets_load Lp)
   have KK := hid (show ∀ z : World, Grows V30 z → (loadVar 31 ⟨gk10, 0, none⟩).run Try.prog z = .ok (.agg (kyC x)) z from fun z hz => by obtain ⟨q, rfl⟩ := hz; exact (Lk.later q.below).kyLoad)
   have ea := any_amid x (ta)
   have eb := any_amid x (tb)
   obtain ⟨bt10, hbt⟩ : ∃ b, (amidB x (tb) || (!true && amidB x (ta))) = b := ⟨_, rfl⟩
   obtain ⟨bf10, hbf⟩ : ∃ b, (amidB x (tb) || (!false && amidB x (ta))) = b := ⟨_, rfl⟩
   have MA := hid (show ∀ z : Ext V30, Calls Try.prog 16 #[.agg #[.slice (uptoK a1 c1) m1 c1, .slice (uptoK a2 c2) m2 c2], .agg (kyC x), .bool true] z.w (fun e w' => e = .returned (.bool bt10) ∧ ∃ x : Ext V30, w' = x.w) from fun z => by
    have h := Ext.atK (kmay_any z.w (.agg #[.slice (uptoK a1 c1) m1 c1, .slice (uptoK a2 c2) m2 c2]) (ta) (tb) x true HX.out ⟨_, _, rfl, LA1.later z.below, LA2.later z.below⟩)
    rw [ea, eb, hbt] at h
    exact h)
   have MB := hid (show ∀ z : Ext V30, Calls Try.prog 17 #[.agg #[.slice (uptoK a1 c1) m1 c1, .slice (uptoK a2 c2) m2 c2], .agg (kyC x), .bool true] z.w (fun e w' => e = .returned (.bool bt10) ∧ ∃ x : Ext V30, w' = x.w) from fun z => by
    have h := Ext.atK (rMay_any z.w (.agg #[.slice (uptoK a1 c1) m1 c1, .slice (uptoK a2 c2) m2 c2]) (ta) (tb) x true HX.out ⟨_, _, rfl, LA1.later z.below, LA2.later z.below⟩)
    rw [hbt] at h
    exact h)
   have MC := hid (show ∀ z : Ext V30, Calls Try.prog 16 #[.agg #[.slice (uptoK a1 c1) m1 c1, .slice (uptoK a2 c2) m2 c2], .agg (kyC x), .bool false] z.w (fun e w' => e = .returned (.bool bf10) ∧ ∃ x : Ext V30, w' = x.w) from fun z => by
    have h := Ext.atK (kmay_any z.w (.agg #[.slice (uptoK a1 c1) m1 c1, .slice (uptoK a2 c2) m2 c2]) (ta) (tb) x false HX.out ⟨_, _, rfl, LA1.later z.below, LA2.later z.below⟩)
    rw [ea, eb, hbf] at h
    exact h)
   have MD := hid (show ∀ z : Ext V30, Calls Try.prog 17 #[.agg #[.slice (uptoK a1 c1) m1 c1, .slice (uptoK a2 c2) m2 c2], .agg (kyC x), .bool false] z.w (fun e w' => e = .returned (.bool bf10) ∧ ∃ x : Ext V30, w' = x.w) from fun z => by
    have h := Ext.atK (rMay_any z.w (.agg #[.slice (uptoK a1 c1) m1 c1, .slice (uptoK a2 c2) m2 c2]) (ta) (tb) x false HX.out ⟨_, _, rfl, LA1.later z.below, LA2.later z.below⟩)
    rw [hbf] at h
    exact h)
   clear ea eb hbt hbf
   try simp only [List.append]
   refine wp_region_quietL (C := Grows V30) hmx (by kernel_rfl) (grows_refl V30) ?_
   repeat (first | (with_reducible refine wpQuiet_load rfl 24 _ rfl _ rfl _ KP.out ?_; simp only [Act.put, sT, sS, sZ]) | (with_reducible refine wpQuiet_load rfl 31 _ rfl _ rfl _ KK.out ?_; simp only [Act.put, sT, sS, sZ]) | (go_big_quiet_step (first | (with_reducible exact MA.out _) | (with_reducible exact MB.out _) | (with_reducible exact MC.out _) | (with_reducible exact MD.out _))))
   refine wpQuiet_nil ?_
   rintro _ ⟨zwm10, rfl⟩
   have qa := zwm10.below
   replace LA1 := LA1.later qa
   replace LA2 := LA2.later qa
   replace LX := LX.later qa
   replace LY := LY.later qa
   replace LS1 := LS1.later qa
   replace LS2 := LS2.later qa
   replace LS := LS.later qa
   replace LT := LT.later qa
   replace LU1 := LU1.later qa
   replace LU2 := LU2.later qa
   replace LU := LU.later qa
   replace LL := LL.later qa
   replace LV := LV.later qa
   replace LQ := LQ.later qa
   replace Lp := Lp.later qa
   replace LK := LK.later qa
   replace Lk := Lk.later qa
   replace Q := Q.trans (qa.mono Q.size)
   clear qa
   generalize zwm10.w = wm10 at *
   clear KP KK MA MB MC MD
   clear Lk
   go_wp2
   rw [rounds_succ]
   have hk0 : (loadVar 31 ⟨gK1, 25, none⟩).run Try.prog wm10 = .ok (.agg (kyC y)) wm10 := by
    have h := (LK.in (i := 1) rfl).load
    rw [add_lit] at h
    exact h
   have HZ := Has.new wm10 31 #[.int .u8 0, .int .u8 0, .int .u8 0, .int .u8 0, .int .u8 0, .int .u8 0, .int .u8 0, .int .u8 0, .int .u8 0, .int .u8 0, .int .u8 0, .int .u8 0, .int .u8 0, .int .u8 0, .int .u8 0, .int .u8 0, .int .u8 0, .int .u8 0, .int .u8 0, .int .u8 0, .bool false, .int .u64 0, .int .u64 0, .int .u64 0, .int .u64 0]
   have qa := below_rowK (newA wm10 (.cells #[.int .u8 0, .int .u8 0, .int .u8 0, .int .u8 0, .int .u8 0, .int .u8 0, .int .u8 0, .int .u8 0, .int .u8 0, .int .u8 0, .int .u8 0, .int .u8 0, .int .u8 0, .int .u8 0, .int .u8 0, .int .u8 0, .int .u8 0, .int .u8 0, .int .u8 0, .int .u8 0, .bool false, .int .u64 0, .int .u64 0, .int .u64 0, .int .u64 0] 31)) (g := wm10.heap.size) (Nat.le_refl _) (kyC y)
   have Lk : Has ((wm10.alloc (.cells #[.int .u8 0, .int .u8 0, .int .u8 0, .int .u8 0, .int .u8 0, .int .u8 0, .int .u8 0, .int .u8 0, .int .u8 0, .int .u8 0, .int .u8 0, .int .u8 0, .int .u8 0, .int .u8 0, .int .u8 0, .int .u8 0, .int .u8 0, .int .u8 0, .int .u8 0, .int .u8 0, .bool false, .int .u64 0, .int .u64 0, .int .u64 0, .int .u64 0] 31)).setRow wm10.heap.size (kyC y)) wm10.heap.size 31 (kyC y) := setRow_heap _ _ _ _ _ _ HZ
   have HI : (Try.prog.info? 31).map (·.size) = some (kyC y).size := by rw [kyC_size]; exact infoKy
   have HI := hid HI
   have HSZ := hid (show (#[.int .u8 0, .int .u8 0, .int .u8 0, .int .u8 0, .int .u8 0, .int .u8 0, .int .u8 0, .int .u8 0, .int .u8 0, .int .u8 0, .int .u8 0, .int .u8 0, .int .u8 0, .int .u8 0, .int .u8 0, .int .u8 0, .int .u8 0, .int .u8 0, .int .u8 0, .int .u8 0, .bool false, .int .u64 0, .int .u64 0, .int .u64 0, .int .u64 0] : Array Value).size = (kyC y).size by rw [kyC_size]; rfl)
   have HON := hid (kyC_one y)
   have HZ := hid HZ
   obtain ⟨V31, hV31⟩ : ∃ V31, (wm10.alloc (.cells #[.int .u8 0, .int .u8 0, .int .u8 0, .int .u8 0, .int .u8 0, .int .u8 0, .int .u8 0, .int .u8 0, .int .u8 0, .int .u8 0, .int .u8 0, .int .u8 0, .int .u8 0, .int .u8 0, .int .u8 0, .int .u8 0, .int .u8 0, .int .u8 0, .int .u8 0, .int .u8 0, .bool false, .int .u64 0, .int .u64 0, .int .u64 0, .int .u64 0] 31)).setRow wm10.heap.size (kyC y) = V31 := ⟨_, rfl⟩
   rw [hV31] at qa Lk
   replace LA1 := LA1.later qa
   replace LA2 := LA2.later qa
   replace LX := LX.later qa
   replace LY := LY.later qa
   replace LS1 := LS1.later qa
   replace LS2 := LS2.later qa
   replace LS := LS.later qa
   replace LT := LT.later qa
   replace LU1 := LU1.later qa
   replace LU2 := LU2.later qa
   replace LU := LU.later qa
   replace LL := LL.later qa
   replace LV := LV.later qa
   replace LQ := LQ.later qa
   replace Lp := Lp.later qa
   replace LK := LK.later qa
   replace Q := Q.trans (qa.mono Q.size)
   clear qa
   have HV31 := hid hV31
   clear hV31
   go_wp2_with (first | (refine wpList_load_known rfl _ (.tmp 151) rfl _ rfl _ hk0 ?_) | (refine wpList_store_row rfl _ (.tmp 29) (.tmp 152) rfl _ _ rfl rfl _ _ HZ.out HI.out HSZ.out HON.out ?_))
   generalize wm10.heap.size = gk11 at *
   try rw [HV31.out]
   clear HV31 HZ HI HSZ HON hk0
   have KP := hid (sets_load Lp)
   have KK := hid (show ∀ z : World, Grows V31 z → (loadVar 31 ⟨gk11, 0, none⟩).run Try.prog z = .ok (.agg (kyC y)) z from fun z hz => by obtain ⟨q, rfl⟩ := hz; exact (Lk.later q.below).kyLoad)
   have ea := any_amid y (ta)
   have eb := any_amid y (tb)
   obtain ⟨bt11, hbt⟩ : ∃ b, (amidB y (tb) || (!true && amidB y (ta))) = b := ⟨_, rfl⟩
   obtain ⟨bf11, hbf⟩ : ∃ b, (amidB y (tb) || (!false && amidB y (ta))) = b := ⟨_, rfl⟩
   have MA := hid (show ∀ z : Ext V31, Calls Try.prog 16 #[.agg #[.slice (uptoK a1 c1) m1 c1, .slice (uptoK a2 c2) m2 c2], .agg (kyC y), .bool true] z.w (fun e w' => e = .returned (.bool bt11) ∧ ∃ x : Ext V31, w' = x.w) from fun z => by
    have h := Ext.atK (kmay_any z.w (.agg #[.slice (uptoK a1 c1) m1 c1, .slice (uptoK a2 c2) m2 c2]) (ta) (tb) y true HY.out ⟨_, _, rfl, LA1.later z.below, LA2.later z.below⟩)
    rw [ea, eb, hbt] at h
    exact h)
   have MB := hid (show ∀ z : Ext V31, Calls Try.prog 17 #[.agg #[.slice (uptoK a1 c1) m1 c1, .slice (uptoK a2 c2) m2 c2], .agg (kyC y), .bool true] z.w (fun e w' => e = .returned (.bool bt11) ∧ ∃ x : Ext V31, w' = x.w) from fun z => by
    have h := Ext.atK (rMay_any z.w (.agg #[.slice (uptoK a1 c1) m1 c1, .slice (uptoK a2 c2) m2 c2]) (ta) (tb) y true HY.out ⟨_, _, rfl, LA1.later z.below, LA2.later z.below⟩)
    rw [hbt] at h
    exact h)
   have MC := hid (show ∀ z : Ext V31, Calls Try.prog 16 #[.agg #[.slice (uptoK a1 c1) m1 c1, .slice (uptoK a2 c2) m2 c2], .agg (kyC y), .bool false] z.w (fun e w' => e = .returned (.bool bf11) ∧ ∃ x : Ext V31, w' = x.w) from fun z => by
    have h := Ext.atK (kmay_any z.w (.agg #[.slice (uptoK a1 c1) m1 c1, .slice (uptoK a2 c2) m2 c2]) (ta) (tb) y false HY.out ⟨_, _, rfl, LA1.later z.below, LA2.later z.below⟩)
    rw [ea, eb, hbf] at h
    exact h)
   have MD := hid (show ∀ z : Ext V31, Calls Try.prog 17 #[.agg #[.slice (uptoK a1 c1) m1 c1, .slice (uptoK a2 c2) m2 c2], .agg (kyC y), .bool false] z.w (fun e w' => e = .returned (.bool bf11) ∧ ∃ x : Ext V31, w' = x.w) from fun z => by
    have h := Ext.atK (rMay_any z.w (.agg #[.slice (uptoK a1 c1) m1 c1, .slice (uptoK a2 c2) m2 c2]) (ta) (tb) y false HY.out ⟨_, _, rfl, LA1.later z.below, LA2.later z.below⟩)
    rw [hbf] at h
    exact h)
   clear ea eb hbt hbf
   try simp only [List.append]
   refine wp_region_quietL (C := Grows V31) hmx (by kernel_rfl) (grows_refl V31) ?_
   repeat (first | (with_reducible refine wpQuiet_load rfl 24 _ rfl _ rfl _ KP.out ?_; simp only [Act.put, sT, sS, sZ]) | (with_reducible refine wpQuiet_load rfl 31 _ rfl _ rfl _ KK.out ?_; simp only [Act.put, sT, sS, sZ]) | (go_big_quiet_step (first | (with_reducible exact MA.out _) | (with_reducible exact MB.out _) | (with_reducible exact MC.out _) | (with_reducible exact MD.out _))))
   refine wpQuiet_nil ?_
   rintro _ ⟨zwm11, rfl⟩
   have qa := zwm11.below
   replace LA1 := LA1.later qa
   replace LA2 := LA2.later qa
   replace LX := LX.later qa
   replace LY := LY.later qa
   replace LS1 := LS1.later qa
   replace LS2 := LS2.later qa
   replace LS := LS.later qa
   replace LT := LT.later qa
   replace LU1 := LU1.later qa
   replace LU2 := LU2.later qa
   replace LU := LU.later qa
   replace LL := LL.later qa
   replace LV := LV.later qa
   replace LQ := LQ.later qa
   replace Lp := Lp.later qa
   replace LK := LK.later qa
   replace Lk := Lk.later qa
   replace Q := Q.trans (qa.mono Q.size)
   clear qa
   generalize zwm11.w = wm11 at *
   clear KP KK MA MB MC MD
   clear Lk
   go_wp2
   rw [rounds_succ]
   clear LK
   have k221 := LS.cell 0 _ rfl
   have k222 := LS.cell 1 _ rfl
   have k223 := LT.cell 0 _ rfl
   have k224 := LT.cell 1 _ rfl
   have k225 := LU.cell 0 _ rfl
   have k226 := LU.cell 1 _ rfl
   have qa := newA wm11 (.cells #[.slice b1 p1 d1, .slice b2 p2 d2, .slice (uptoK a1 c1) m1 c1, .slice (uptoK a2 c2) m2 c2, .slice b3 p3 d3, .slice b4 p4 d4] 24)
   have LR := Has.new wm11 24 #[.slice b1 p1 d1, .slice b2 p2 d2, .slice (uptoK a1 c1) m1 c1, .slice (uptoK a2 c2) m2 c2, .slice b3 p3 d3, .slice b4 p4 d4]
   obtain ⟨V32, hV32⟩ : ∃ V32, wm11.alloc (.cells #[.slice b1 p1 d1, .slice b2 p2 d2, .slice (uptoK a1 c1) m1 c1, .slice (uptoK a2 c2) m2 c2, .slice b3 p3 d3, .slice b4 p4 d4] 24) = V32 := ⟨_, rfl⟩
   rw [hV32] at qa LR
   replace LA1 := LA1.later qa
   replace LA2 := LA2.later qa
   replace LX := LX.later qa
   replace LY := LY.later qa
   replace LS1 := LS1.later qa
   replace LS2 := LS2.later qa
   replace LS := LS.later qa
   replace LT := LT.later qa
   replace LU1 := LU1.later qa
   replace LU2 := LU2.later qa
   replace LU := LU.later qa
   replace LL := LL.later qa
   replace LV := LV.later qa
   replace LQ := LQ.later qa
   replace Lp := Lp.later qa
   replace Q := Q.trans (qa.mono Q.size)
   clear qa
   have k227 := LS.cell 0 _ rfl
   have k228 := LS.cell 1 _ rfl
   have k229 := LT.cell 0 _ rfl
   have k230 := LT.cell 1 _ rfl
   have k231 := LU.cell 0 _ rfl
   have k232 := LU.cell 1 _ rfl
   go_wp2_with fail
   generalize wm11.heap.size = gR1 at *
   clear hV32 k227 k228 k229 k230 k231 k232 k221 k222 k223 k224 k225 k226
   refine wp_loop_rounds 4 ?_
   rw [rounds_succ]
   obtain ⟨ja10, hja⟩ : ∃ l, (joinM (ta) (tb) (setN z1) (setN z2)).1 = l := ⟨_, rfl⟩
   obtain ⟨jb10, hjb⟩ : ∃ l, (joinM (ta) (tb) (setN z1) (setN z2)).2.1 = l := ⟨_, rfl⟩
   obtain ⟨jc10, hjc⟩ : ∃ l, (joinM (ta) (tb) (setN z1) (setN z2)).2.2 = l := ⟨_, rfl⟩
   have MK := hid (fun (Y : World) (i1 : SetsAt Y (.agg #[.slice (uptoK a1 c1) m1 c1, .slice (uptoK a2 c2) m2 c2]) (ta) (tb)) (i2 : SetsAt Y (.agg #[.slice b1 p1 d1, .slice b2 p2 d2]) (setN z1) (setN z2)) => (show Calls Try.prog 18 #[.agg #[.slice (uptoK a1 c1) m1 c1, .slice (uptoK a2 c2) m2 c2], .agg #[.slice b1 p1 d1, .slice b2 p2 d2]] Y (SetsP Y ja10 jb10 jc10) from by
    have h := kjoin_any Y _ _ _ _ _ _ i1 i2
    rw [hja, hjb, hjc] at h
    exact h).mono fun e w' h => h.ex)
   have RK := hid (fun (Y : World) (i1 : SetsAt Y (.agg #[.slice (uptoK a1 c1) m1 c1, .slice (uptoK a2 c2) m2 c2]) (ta) (tb)) (i2 : SetsAt Y (.agg #[.slice b1 p1 d1, .slice b2 p2 d2]) (setN z1) (setN z2)) => (show Calls Try.prog 19 #[.agg #[.slice (uptoK a1 c1) m1 c1, .slice (uptoK a2 c2) m2 c2], .agg #[.slice b1 p1 d1, .slice b2 p2 d2]] Y (SetsP Y ja10 jb10 jc10) from by
    have h := rjoin_any Y _ _ _ _ _ _ i1 i2
    rw [hja, hjb, hjc] at h
    exact h).mono fun e w' h => h.ex)
   clear hja hjb hjc
   have k233 := LR.cell 0 _ rfl
   have k234 := LR.cell 1 _ rfl
   have k235 := LR.cell 2 _ rfl
   have k236 := LR.cell 3 _ rfl
   have k237 := LR.cell 4 _ rfl
   have k238 := LR.cell 5 _ rfl
   have k239 := Lp.cell 0 _ rfl
   have k240 := Lp.cell 1 _ rfl
   have qa := newA V32 (.cells #[.slice b1 p1 d1, .slice b2 p2 d2] 24)
   have Lq := Has.new V32 24 #[.slice b1 p1 d1, .slice b2 p2 d2]
   obtain ⟨V33, hV33⟩ : ∃ V33, V32.alloc (.cells #[.slice b1 p1 d1, .slice b2 p2 d2] 24) = V33 := ⟨_, rfl⟩
   rw [hV33] at qa Lq
   replace LA1 := LA1.later qa
   replace LA2 := LA2.later qa
   replace LX := LX.later qa
   replace LY := LY.later qa
   replace LS1 := LS1.later qa
   replace LS2 := LS2.later qa
   replace LS := LS.later qa
   replace LT := LT.later qa
   replace LU1 := LU1.later qa
   replace LU2 := LU2.later qa
   replace LU := LU.later qa
   replace LL := LL.later qa
   replace LV := LV.later qa
   replace LQ := LQ.later qa
   replace Lp := Lp.later qa
   replace LR := LR.later qa
   replace Q := Q.trans (qa.mono Q.size)
   clear qa
   have k241 := LR.cell 0 _ rfl
   have k242 := LR.cell 1 _ rfl
   have k243 := LR.cell 2 _ rfl
   have k244 := LR.cell 3 _ rfl
   have k245 := LR.cell 4 _ rfl
   have k246 := LR.cell 5 _ rfl
   have k247 := Lp.cell 0 _ rfl
   have k248 := Lp.cell 1 _ rfl
   have k249 := Lq.cell 0 _ rfl
   have k250 := Lq.cell 1 _ rfl
   go_wp2_with fail
   generalize V32.heap.size = gq10 at *
   clear hV33 k241 k242 k243 k244 k245 k246 k247 k248 k249 k250 k233 k234 k235 k236 k237 k238 k239 k240
   refine (MK.out V33 ⟨_, _, rfl, LA1, LA2⟩ ⟨_, _, rfl, LS1, LS2⟩).mono ?_
   rintro _ mj10 ⟨Mx, My, rfl, LM1, LM2, q1⟩
   replace LA1 := LA1.later q1
   replace LA2 := LA2.later q1
   replace LX := LX.later q1
   replace LY := LY.later q1
   replace LS1 := LS1.later q1
   replace LS2 := LS2.later q1
   replace LS := LS.later q1
   replace LT := LT.later q1
   replace LU1 := LU1.later q1
   replace LU2 := LU2.later q1
   replace LU := LU.later q1
   replace LL := LL.later q1
   replace LV := LV.later q1
   replace LQ := LQ.later q1
   replace Lp := Lp.later q1
   replace LR := LR.later q1
   replace Lq := Lq.later q1
   replace Q := Q.trans (q1.mono Q.size)
   clear q1 MK
   obtain ⟨Mp, Mq, rfl, _, _⟩ := LM1.shape
   obtain ⟨Mr, Ms, rfl, _, _⟩ := LM2.shape
   have k251 := Lp.cell 0 _ rfl
   have k252 := Lp.cell 1 _ rfl
   have k253 := Lq.cell 0 _ rfl
   have k254 := Lq.cell 1 _ rfl
   have qa := newA mj10 (.cells #[.slice Mp ja10.length Mq, .slice Mr jb10.length Ms] 24)
   have LM := Has.new mj10 24 #[.slice Mp ja10.length Mq, .slice Mr jb10.length Ms]
   obtain ⟨V34, hV34⟩ : ∃ V34, mj10.alloc (.cells #[.slice Mp ja10.length Mq, .slice Mr jb10.length Ms] 24) = V34 := ⟨_, rfl⟩
   rw [hV34] at qa LM
   replace LA1 := LA1.later qa
   replace LA2 := LA2.later qa
   replace LX := LX.later qa
   replace LY := LY.later qa
   replace LS1 := LS1.later qa
   replace LS2 := LS2.later qa
   replace LS := LS.later qa
   replace LT := LT.later qa
   replace LU1 := LU1.later qa
   replace LU2 := LU2.later qa
   replace LU := LU.later qa
   replace LL := LL.later qa
   replace LV := LV.later qa
   replace LQ := LQ.later qa
   replace Lp := Lp.later qa
   replace LR := LR.later qa
   replace Lq := Lq.later qa
   replace LM1 := LM1.later qa
   replace LM2 := LM2.later qa
   replace Q := Q.trans (qa.mono Q.size)
   clear qa
   have k255 := Lp.cell 0 _ rfl
   have k256 := Lp.cell 1 _ rfl
   have k257 := Lq.cell 0 _ rfl
   have k258 := Lq.cell 1 _ rfl
   go_wp2_with fail
   generalize mj10.heap.size = gM10 at *
   clear hV34 k255 k256 k257 k258 k251 k252 k253 k254
   refine (RK.out V34 ⟨_, _, rfl, LA1, LA2⟩ ⟨_, _, rfl, LS1, LS2⟩).mono ?_
   rintro _ nj10 ⟨Nx, Ny, rfl, LN1, LN2, q1⟩
   replace LA1 := LA1.later q1
   replace LA2 := LA2.later q1
   replace LX := LX.later q1
   replace LY := LY.later q1
   replace LS1 := LS1.later q1
   replace LS2 := LS2.later q1
   replace LS := LS.later q1
   replace LT := LT.later q1
   replace LU1 := LU1.later q1
   replace LU2 := LU2.later q1
   replace LU := LU.later q1
   replace LL := LL.later q1
   replace LV := LV.later q1
   replace LQ := LQ.later q1
   replace Lp := Lp.later q1
   replace LR := LR.later q1
   replace Lq := Lq.later q1
   replace LM1 := LM1.later q1
   replace LM2 := LM2.later q1
   replace LM := LM.later q1
   replace Q := Q.trans (q1.mono Q.size)
   clear q1 RK
   obtain ⟨Np, Nq, rfl, _, _⟩ := LN1.shape
   obtain ⟨Nr, Ns, rfl, _, _⟩ := LN2.shape
   have qa := newA nj10 (.cells #[.slice Np ja10.length Nq, .slice Nr jb10.length Ns] 24)
   have LN := Has.new nj10 24 #[.slice Np ja10.length Nq, .slice Nr jb10.length Ns]
   obtain ⟨V35, hV35⟩ : ∃ V35, nj10.alloc (.cells #[.slice Np ja10.length Nq, .slice Nr jb10.length Ns] 24) = V35 := ⟨_, rfl⟩
   rw [hV35] at qa LN
   replace LA1 := LA1.later qa
   replace LA2 := LA2.later qa
   replace LX := LX.later qa
   replace LY := LY.later qa
   replace LS1 := LS1.later qa
   replace LS2 := LS2.later qa
   replace LS := LS.later qa
   replace LT := LT.later qa
   replace LU1 := LU1.later qa
   replace LU2 := LU2.later qa
   replace LU := LU.later qa
   replace LL := LL.later qa
   replace LV := LV.later qa
   replace LQ := LQ.later qa
   replace Lp := Lp.later qa
   replace LR := LR.later qa
   replace Lq := Lq.later qa
   replace LM1 := LM1.later qa
   replace LM2 := LM2.later qa
   replace LM := LM.later qa
   replace LN1 := LN1.later qa
   replace LN2 := LN2.later qa
   replace Q := Q.trans (qa.mono Q.size)
   clear qa
   go_wp2_with fail
   generalize nj10.heap.size = gN10 at *
   clear hV35  
   have KP := hid (sets_load Lp)
   have KQ := hid (sets_load Lq)
   have KM := hid (sets_load LM)
   have KN := hid (sets_load LN)
   have ec := clash_one (ta) (tb) (setN z1) (setN z2)
   obtain ⟨cb10, hcb⟩ : ∃ b, (oneB (tb) (setN z1) (setN z2) || oneB (setN z2) (ta) (tb)) = b := ⟨_, rfl⟩
   have CA := hid (show ∀ z : Ext V35, Calls Try.prog 20 #[.agg #[.slice (uptoK a1 c1) m1 c1, .slice (uptoK a2 c2) m2 c2], .agg #[.slice b1 p1 d1, .slice b2 p2 d2]] z.w (fun e w' => e = .returned (.bool cb10) ∧ ∃ x : Ext V35, w' = x.w) from fun z => by
    have h := Ext.atK (kclash_any z.w (.agg #[.slice (uptoK a1 c1) m1 c1, .slice (uptoK a2 c2) m2 c2]) (.agg #[.slice b1 p1 d1, .slice b2 p2 d2]) (ta) (tb) (setN z1) (setN z2) ⟨_, _, rfl, LA1.later z.below, LA2.later z.below⟩ ⟨_, _, rfl, LS1.later z.below, LS2.later z.below⟩ HLEN.out.2.1.2 HLEN.out.2.2.1 HLEN.out.1.1 HLEN.out.1.2)
    rw [ec, hcb] at h
    exact h)
   have CB := hid (show ∀ z : Ext V35, Calls Try.prog 21 #[.agg #[.slice (uptoK a1 c1) m1 c1, .slice (uptoK a2 c2) m2 c2], .agg #[.slice b1 p1 d1, .slice b2 p2 d2]] z.w (fun e w' => e = .returned (.bool cb10) ∧ ∃ x : Ext V35, w' = x.w) from fun z => by
    have h := Ext.atK (rclash_any z.w (.agg #[.slice (uptoK a1 c1) m1 c1, .slice (uptoK a2 c2) m2 c2]) (.agg #[.slice b1 p1 d1, .slice b2 p2 d2]) (ta) (tb) (setN z1) (setN z2) ⟨_, _, rfl, LA1.later z.below, LA2.later z.below⟩ ⟨_, _, rfl, LS1.later z.below, LS2.later z.below⟩)
    rw [hcb] at h
    exact h)
   have CC := hid (show ∀ z : Ext V35, Calls Try.prog 13 #[.agg #[.slice Mp ja10.length Mq, .slice Mr jb10.length Ms], .agg #[.slice Np ja10.length Nq, .slice Nr jb10.length Ns]] z.w (fun e w' => e = .returned (.bool true) ∧ ∃ x : Ext V35, w' = x.w) from fun z => by
    have h := Ext.atK (ksets_any z.w (.agg #[.slice Mp ja10.length Mq, .slice Mr jb10.length Ms]) (.agg #[.slice Np ja10.length Nq, .slice Nr jb10.length Ns]) ja10 jb10 ja10 jb10 ⟨_, _, rfl, LM1.later z.below, LM2.later z.below⟩ ⟨_, _, rfl, LN1.later z.below, LN2.later z.below⟩)
    rw [show (decide (ja10 = ja10) && decide (jb10 = jb10)) = true by simp] at h
    exact h)
   clear ec hcb
   try simp only [List.append]
   refine wp_region_quietL (C := Grows V35) hmx (by kernel_rfl) (grows_refl V35) ?_
   repeat (first | (with_reducible refine wpQuiet_load rfl 24 _ rfl _ rfl _ KP.out ?_; simp only [Act.put, sT, sS, sZ]) | (with_reducible refine wpQuiet_load rfl 24 _ rfl _ rfl _ KQ.out ?_; simp only [Act.put, sT, sS, sZ]) | (with_reducible refine wpQuiet_load rfl 24 _ rfl _ rfl _ KM.out ?_; simp only [Act.put, sT, sS, sZ]) | (with_reducible refine wpQuiet_load rfl 24 _ rfl _ rfl _ KN.out ?_; simp only [Act.put, sT, sS, sZ]) | (go_big_quiet_step (first | (with_reducible exact CA.out _) | (with_reducible exact CB.out _) | (with_reducible exact CC.out _))))
   refine wpQuiet_nil ?_
   rintro _ ⟨zwc10, rfl⟩
   have qa := zwc10.below
   replace LA1 := LA1.later qa
   replace LA2 := LA2.later qa
   replace LX := LX.later qa
   replace LY := LY.later qa
   replace LS1 := LS1.later qa
   replace LS2 := LS2.later qa
   replace LS := LS.later qa
   replace LT := LT.later qa
   replace LU1 := LU1.later qa
   replace LU2 := LU2.later qa
   replace LU := LU.later qa
   replace LL := LL.later qa
   replace LV := LV.later qa
   replace LQ := LQ.later qa
   replace Lp := Lp.later qa
   replace LR := LR.later qa
   replace Lq := Lq.later qa
   replace LM1 := LM1.later qa
   replace LM2 := LM2.later qa
   replace LM := LM.later qa
   replace LN1 := LN1.later qa
   replace LN2 := LN2.later qa
   replace LN := LN.later qa
   replace Q := Q.trans (qa.mono Q.size)
   clear qa
   generalize zwc10.w = wc10 at *
   clear KP KQ KM KN CA CB CC
   clear Lq LM LN LM1 LM2 LN1 LN2
   go_wp2
   rw [rounds_succ]
   obtain ⟨ja11, hja⟩ : ∃ l, (joinM (ta) (tb) (ta) (tb)).1 = l := ⟨_, rfl⟩
   obtain ⟨jb11, hjb⟩ : ∃ l, (joinM (ta) (tb) (ta) (tb)).2.1 = l := ⟨_, rfl⟩
   obtain ⟨jc11, hjc⟩ : ∃ l, (joinM (ta) (tb) (ta) (tb)).2.2 = l := ⟨_, rfl⟩
   have MK := hid (fun (Y : World) (i1 : SetsAt Y (.agg #[.slice (uptoK a1 c1) m1 c1, .slice (uptoK a2 c2) m2 c2]) (ta) (tb)) (i2 : SetsAt Y (.agg #[.slice (uptoK a1 c1) m1 c1, .slice (uptoK a2 c2) m2 c2]) (ta) (tb)) => (show Calls Try.prog 18 #[.agg #[.slice (uptoK a1 c1) m1 c1, .slice (uptoK a2 c2) m2 c2], .agg #[.slice (uptoK a1 c1) m1 c1, .slice (uptoK a2 c2) m2 c2]] Y (SetsP Y ja11 jb11 jc11) from by
    have h := kjoin_any Y _ _ _ _ _ _ i1 i2
    rw [hja, hjb, hjc] at h
    exact h).mono fun e w' h => h.ex)
   have RK := hid (fun (Y : World) (i1 : SetsAt Y (.agg #[.slice (uptoK a1 c1) m1 c1, .slice (uptoK a2 c2) m2 c2]) (ta) (tb)) (i2 : SetsAt Y (.agg #[.slice (uptoK a1 c1) m1 c1, .slice (uptoK a2 c2) m2 c2]) (ta) (tb)) => (show Calls Try.prog 19 #[.agg #[.slice (uptoK a1 c1) m1 c1, .slice (uptoK a2 c2) m2 c2], .agg #[.slice (uptoK a1 c1) m1 c1, .slice (uptoK a2 c2) m2 c2]] Y (SetsP Y ja11 jb11 jc11) from by
    have h := rjoin_any Y _ _ _ _ _ _ i1 i2
    rw [hja, hjb, hjc] at h
    exact h).mono fun e w' h => h.ex)
   clear hja hjb hjc
   have k259 := LR.cell 0 _ rfl
   have k260 := LR.cell 1 _ rfl
   have k261 := LR.cell 2 _ rfl
   have k262 := LR.cell 3 _ rfl
   have k263 := LR.cell 4 _ rfl
   have k264 := LR.cell 5 _ rfl
   have k265 := Lp.cell 0 _ rfl
   have k266 := Lp.cell 1 _ rfl
   have qa := newA wc10 (.cells #[.slice (uptoK a1 c1) m1 c1, .slice (uptoK a2 c2) m2 c2] 24)
   have Lq := Has.new wc10 24 #[.slice (uptoK a1 c1) m1 c1, .slice (uptoK a2 c2) m2 c2]
   obtain ⟨V36, hV36⟩ : ∃ V36, wc10.alloc (.cells #[.slice (uptoK a1 c1) m1 c1, .slice (uptoK a2 c2) m2 c2] 24) = V36 := ⟨_, rfl⟩
   rw [hV36] at qa Lq
   replace LA1 := LA1.later qa
   replace LA2 := LA2.later qa
   replace LX := LX.later qa
   replace LY := LY.later qa
   replace LS1 := LS1.later qa
   replace LS2 := LS2.later qa
   replace LS := LS.later qa
   replace LT := LT.later qa
   replace LU1 := LU1.later qa
   replace LU2 := LU2.later qa
   replace LU := LU.later qa
   replace LL := LL.later qa
   replace LV := LV.later qa
   replace LQ := LQ.later qa
   replace Lp := Lp.later qa
   replace LR := LR.later qa
   replace Q := Q.trans (qa.mono Q.size)
   clear qa
   have k267 := LR.cell 0 _ rfl
   have k268 := LR.cell 1 _ rfl
   have k269 := LR.cell 2 _ rfl
   have k270 := LR.cell 3 _ rfl
   have k271 := LR.cell 4 _ rfl
   have k272 := LR.cell 5 _ rfl
   have k273 := Lp.cell 0 _ rfl
   have k274 := Lp.cell 1 _ rfl
   have k275 := Lq.cell 0 _ rfl
   have k276 := Lq.cell 1 _ rfl
   go_wp2_with fail
   generalize wc10.heap.size = gq11 at *
   clear hV36 k267 k268 k269 k270 k271 k272 k273 k274 k275 k276 k259 k260 k261 k262 k263 k264 k265 k266
   refine (MK.out V36 ⟨_, _, rfl, LA1, LA2⟩ ⟨_, _, rfl, LA1, LA2⟩).mono ?_
   rintro _ mj11 ⟨Mx, My, rfl, LM1, LM2, q1⟩
   replace LA1 := LA1.later q1
   replace LA2 := LA2.later q1
   replace LX := LX.later q1
   replace LY := LY.later q1
   replace LS1 := LS1.later q1
   replace LS2 := LS2.later q1
   replace LS := LS.later q1
   replace LT := LT.later q1
   replace LU1 := LU1.later q1
   replace LU2 := LU2.later q1
   replace LU := LU.later q1
   replace LL := LL.later q1
   replace LV := LV.later q1
   replace LQ := LQ.later q1
   replace Lp := Lp.later q1
   replace LR := LR.later q1
   replace Lq := Lq.later q1
   replace Q := Q.trans (q1.mono Q.size)
   clear q1 MK
   obtain ⟨Mp, Mq, rfl, _, _⟩ := LM1.shape
   obtain ⟨Mr, Ms, rfl, _, _⟩ := LM2.shape
   have k277 := Lp.cell 0 _ rfl
   have k278 := Lp.cell 1 _ rfl
   have k279 := Lq.cell 0 _ rfl
   have k280 := Lq.cell 1 _ rfl
   have qa := newA mj11 (.cells #[.slice Mp ja11.length Mq, .slice Mr jb11.length Ms] 24)
   have LM := Has.new mj11 24 #[.slice Mp ja11.length Mq, .slice Mr jb11.length Ms]
   obtain ⟨V37, hV37⟩ : ∃ V37, mj11.alloc (.cells #[.slice Mp ja11.length Mq, .slice Mr jb11.length Ms] 24) = V37 := ⟨_, rfl⟩
   rw [hV37] at qa LM
   replace LA1 := LA1.later qa
   replace LA2 := LA2.later qa
   replace LX := LX.later qa
   replace LY := LY.later qa
   replace LS1 := LS1.later qa
   replace LS2 := LS2.later qa
   replace LS := LS.later qa
   replace LT := LT.later qa
   replace LU1 := LU1.later qa
   replace LU2 := LU2.later qa
   replace LU := LU.later qa
   replace LL := LL.later qa
   replace LV := LV.later qa
   replace LQ := LQ.later qa
   replace Lp := Lp.later qa
   replace LR := LR.later qa
   replace Lq := Lq.later qa
   replace LM1 := LM1.later qa
   replace LM2 := LM2.later qa
   replace Q := Q.trans (qa.mono Q.size)
   clear qa
   have k281 := Lp.cell 0 _ rfl
   have k282 := Lp.cell 1 _ rfl
   have k283 := Lq.cell 0 _ rfl
   have k284 := Lq.cell 1 _ rfl
   go_wp2_with fail
   generalize mj11.heap.size = gM11 at *
   clear hV37 k281 k282 k283 k284 k277 k278 k279 k280
   refine (RK.out V37 ⟨_, _, rfl, LA1, LA2⟩ ⟨_, _, rfl, LA1, LA2⟩).mono ?_
   rintro _ nj11 ⟨Nx, Ny, rfl, LN1, LN2, q1⟩
   replace LA1 := LA1.later q1
   replace LA2 := LA2.later q1
   replace LX := LX.later q1
   replace LY := LY.later q1
   replace LS1 := LS1.later q1
   replace LS2 := LS2.later q1
   replace LS := LS.later q1
   replace LT := LT.later q1
   replace LU1 := LU1.later q1
   replace LU2 := LU2.later q1
   replace LU := LU.later q1
   replace LL := LL.later q1
   replace LV := LV.later q1
   replace LQ := LQ.later q1
   replace Lp := Lp.later q1
   replace LR := LR.later q1
   replace Lq := Lq.later q1
   replace LM1 := LM1.later q1
   replace LM2 := LM2.later q1
   replace LM := LM.later q1
   replace Q := Q.trans (q1.mono Q.size)
   clear q1 RK
   obtain ⟨Np, Nq, rfl, _, _⟩ := LN1.shape
   obtain ⟨Nr, Ns, rfl, _, _⟩ := LN2.shape
   have qa := newA nj11 (.cells #[.slice Np ja11.length Nq, .slice Nr jb11.length Ns] 24)
   have LN := Has.new nj11 24 #[.slice Np ja11.length Nq, .slice Nr jb11.length Ns]
   obtain ⟨V38, hV38⟩ : ∃ V38, nj11.alloc (.cells #[.slice Np ja11.length Nq, .slice Nr jb11.length Ns] 24) = V38 := ⟨_, rfl⟩
   rw [hV38] at qa LN
   replace LA1 := LA1.later qa
   replace LA2 := LA2.later qa
   replace LX := LX.later qa
   replace LY := LY.later qa
   replace LS1 := LS1.later qa
   replace LS2 := LS2.later qa
   replace LS := LS.later qa
   replace LT := LT.later qa
   replace LU1 := LU1.later qa
   replace LU2 := LU2.later qa
   replace LU := LU.later qa
   replace LL := LL.later qa
   replace LV := LV.later qa
   replace LQ := LQ.later qa
   replace Lp := Lp.later qa
   replace LR := LR.later qa
   replace Lq := Lq.later qa
   replace LM1 := LM1.later qa
   replace LM2 := LM2.later qa
   replace LM := LM.later qa
   replace LN1 := LN1.later qa
   replace LN2 := LN2.later qa
   replace Q := Q.trans (qa.mono Q.size)
   clear qa
   go_wp2_with fail
   generalize nj11.heap.size = gN11 at *
   clear hV38  
   have KP := hid (sets_load Lp)
   have KQ := hid (sets_load Lq)
   have KM := hid (sets_load LM)
   have KN := hid (sets_load LN)
   have ec := clash_one (ta) (tb) (ta) (tb)
   obtain ⟨cb11, hcb⟩ : ∃ b, (oneB (tb) (ta) (tb) || oneB (tb) (ta) (tb)) = b := ⟨_, rfl⟩
   have CA := hid (show ∀ z : Ext V38, Calls Try.prog 20 #[.agg #[.slice (uptoK a1 c1) m1 c1, .slice (uptoK a2 c2) m2 c2], .agg #[.slice (uptoK a1 c1) m1 c1, .slice (uptoK a2 c2) m2 c2]] z.w (fun e w' => e = .returned (.bool cb11) ∧ ∃ x : Ext V38, w' = x.w) from fun z => by
    have h := Ext.atK (kclash_any z.w (.agg #[.slice (uptoK a1 c1) m1 c1, .slice (uptoK a2 c2) m2 c2]) (.agg #[.slice (uptoK a1 c1) m1 c1, .slice (uptoK a2 c2) m2 c2]) (ta) (tb) (ta) (tb) ⟨_, _, rfl, LA1.later z.below, LA2.later z.below⟩ ⟨_, _, rfl, LA1.later z.below, LA2.later z.below⟩ HLEN.out.2.1.2 HLEN.out.2.2.1 HLEN.out.2.1.2 HLEN.out.2.2.1)
    rw [ec, hcb] at h
    exact h)
   have CB := hid (show ∀ z : Ext V38, Calls Try.prog 21 #[.agg #[.slice (uptoK a1 c1) m1 c1, .slice (uptoK a2 c2) m2 c2], .agg #[.slice (uptoK a1 c1) m1 c1, .slice (uptoK a2 c2) m2 c2]] z.w (fun e w' => e = .returned (.bool cb11) ∧ ∃ x : Ext V38, w' = x.w) from fun z => by
    have h := Ext.atK (rclash_any z.w (.agg #[.slice (uptoK a1 c1) m1 c1, .slice (uptoK a2 c2) m2 c2]) (.agg #[.slice (uptoK a1 c1) m1 c1, .slice (uptoK a2 c2) m2 c2]) (ta) (tb) (ta) (tb) ⟨_, _, rfl, LA1.later z.below, LA2.later z.below⟩ ⟨_, _, rfl, LA1.later z.below, LA2.later z.below⟩)
    rw [hcb] at h
    exact h)
   have CC := hid (show ∀ z : Ext V38, Calls Try.prog 13 #[.agg #[.slice Mp ja11.length Mq, .slice Mr jb11.length Ms], .agg #[.slice Np ja11.length Nq, .slice Nr jb11.length Ns]] z.w (fun e w' => e = .returned (.bool true) ∧ ∃ x : Ext V38, w' = x.w) from fun z => by
    have h := Ext.atK (ksets_any z.w (.agg #[.slice Mp ja11.length Mq, .slice Mr jb11.length Ms]) (.agg #[.slice Np ja11.length Nq, .slice Nr jb11.length Ns]) ja11 jb11 ja11 jb11 ⟨_, _, rfl, LM1.later z.below, LM2.later z.below⟩ ⟨_, _, rfl, LN1.later z.below, LN2.later z.below⟩)
    rw [show (decide (ja11 = ja11) && decide (jb11 = jb11)) = true by simp] at h
    exact h)
   clear ec hcb
   try simp only [List.append]
   refine wp_region_quietL (C := Grows V38) hmx (by kernel_rfl) (grows_refl V38) ?_
   repeat (first | (with_reducible refine wpQuiet_load rfl 24 _ rfl _ rfl _ KP.out ?_; simp only [Act.put, sT, sS, sZ]) | (with_reducible refine wpQuiet_load rfl 24 _ rfl _ rfl _ KQ.out ?_; simp only [Act.put, sT, sS, sZ]) | (with_reducible refine wpQuiet_load rfl 24 _ rfl _ rfl _ KM.out ?_; simp only [Act.put, sT, sS, sZ]) | (with_reducible refine wpQuiet_load rfl 24 _ rfl _ rfl _ KN.out ?_; simp only [Act.put, sT, sS, sZ]) | (go_big_quiet_step (first | (with_reducible exact CA.out _) | (with_reducible exact CB.out _) | (with_reducible exact CC.out _))))
   refine wpQuiet_nil ?_
   rintro _ ⟨zwc11, rfl⟩
   have qa := zwc11.below
   replace LA1 := LA1.later qa
   replace LA2 := LA2.later qa
   replace LX := LX.later qa
   replace LY := LY.later qa
   replace LS1 := LS1.later qa
   replace LS2 := LS2.later qa
   replace LS := LS.later qa
   replace LT := LT.later qa
   replace LU1 := LU1.later qa
   replace LU2 := LU2.later qa
   replace LU := LU.later qa
   replace LL := LL.later qa
   replace LV := LV.later qa
   replace LQ := LQ.later qa
   replace Lp := Lp.later qa
   replace LR := LR.later qa
   replace Lq := Lq.later qa
   replace LM1 := LM1.later qa
   replace LM2 := LM2.later qa
   replace LM := LM.later qa
   replace LN1 := LN1.later qa
   replace LN2 := LN2.later qa
   replace LN := LN.later qa
   replace Q := Q.trans (qa.mono Q.size)
   clear qa
   generalize zwc11.w = wc11 at *
   clear KP KQ KM KN CA CB CC
   clear Lq LM LN LM1 LM2 LN1 LN2
   go_wp2
   rw [rounds_succ]
   obtain ⟨ja12, hja⟩ : ∃ l, (joinM (ta) (tb) (setN z2) (setN [])).1 = l := ⟨_, rfl⟩
   obtain ⟨jb12, hjb⟩ : ∃ l, (joinM (ta) (tb) (setN z2) (setN [])).2.1 = l := ⟨_, rfl⟩
   obtain ⟨jc12, hjc⟩ : ∃ l, (joinM (ta) (tb) (setN z2) (setN [])).2.2 = l := ⟨_, rfl⟩
   have MK := hid (fun (Y : World) (i1 : SetsAt Y (.agg #[.slice (uptoK a1 c1) m1 c1, .slice (uptoK a2 c2) m2 c2]) (ta) (tb)) (i2 : SetsAt Y (.agg #[.slice b3 p3 d3, .slice b4 p4 d4]) (setN z2) (setN [])) => (show Calls Try.prog 18 #[.agg #[.slice (uptoK a1 c1) m1 c1, .slice (uptoK a2 c2) m2 c2], .agg #[.slice b3 p3 d3, .slice b4 p4 d4]] Y (SetsP Y ja12 jb12 jc12) from by
    have h := kjoin_any Y _ _ _ _ _ _ i1 i2
    rw [hja, hjb, hjc] at h
    exact h).mono fun e w' h => h.ex)
   have RK := hid (fun (Y : World) (i1 : SetsAt Y (.agg #[.slice (uptoK a1 c1) m1 c1, .slice (uptoK a2 c2) m2 c2]) (ta) (tb)) (i2 : SetsAt Y (.agg #[.slice b3 p3 d3, .slice b4 p4 d4]) (setN z2) (setN [])) => (show Calls Try.prog 19 #[.agg #[.slice (uptoK a1 c1) m1 c1, .slice (uptoK a2 c2) m2 c2], .agg #[.slice b3 p3 d3, .slice b4 p4 d4]] Y (SetsP Y ja12 jb12 jc12) from by
    have h := rjoin_any Y _ _ _ _ _ _ i1 i2
    rw [hja, hjb, hjc] at h
    exact h).mono fun e w' h => h.ex)
   clear hja hjb hjc
   have k285 := LR.cell 0 _ rfl
   have k286 := LR.cell 1 _ rfl
   have k287 := LR.cell 2 _ rfl
   have k288 := LR.cell 3 _ rfl
   have k289 := LR.cell 4 _ rfl
   have k290 := LR.cell 5 _ rfl
   have k291 := Lp.cell 0 _ rfl
   have k292 := Lp.cell 1 _ rfl
   have qa := newA wc11 (.cells #[.slice b3 p3 d3, .slice b4 p4 d4] 24)
   have Lq := Has.new wc11 24 #[.slice b3 p3 d3, .slice b4 p4 d4]
   obtain ⟨V39, hV39⟩ : ∃ V39, wc11.alloc (.cells #[.slice b3 p3 d3, .slice b4 p4 d4] 24) = V39 := ⟨_, rfl⟩
   rw [hV39] at qa Lq
   replace LA1 := LA1.later qa
   replace LA2 := LA2.later qa
   replace LX := LX.later qa
   replace LY := LY.later qa
   replace LS1 := LS1.later qa
   replace LS2 := LS2.later qa
   replace LS := LS.later qa
   replace LT := LT.later qa
   replace LU1 := LU1.later qa
   replace LU2 := LU2.later qa
   replace LU := LU.later qa
   replace LL := LL.later qa
   replace LV := LV.later qa
   replace LQ := LQ.later qa
   replace Lp := Lp.later qa
   replace LR := LR.later qa
   replace Q := Q.trans (qa.mono Q.size)
   clear qa
   have k293 := LR.cell 0 _ rfl
   have k294 := LR.cell 1 _ rfl
   have k295 := LR.cell 2 _ rfl
   have k296 := LR.cell 3 _ rfl
   have k297 := LR.cell 4 _ rfl
   have k298 := LR.cell 5 _ rfl
   have k299 := Lp.cell 0 _ rfl
   have k300 := Lp.cell 1 _ rfl
   have k301 := Lq.cell 0 _ rfl
   have k302 := Lq.cell 1 _ rfl
   go_wp2_with fail
   generalize wc11.heap.size = gq12 at *
   clear hV39 k293 k294 k295 k296 k297 k298 k299 k300 k301 k302 k285 k286 k287 k288 k289 k290 k291 k292
   refine (MK.out V39 ⟨_, _, rfl, LA1, LA2⟩ ⟨_, _, rfl, LU1, LU2⟩).mono ?_
   rintro _ mj12 ⟨Mx, My, rfl, LM1, LM2, q1⟩
   replace LA1 := LA1.later q1
   replace LA2 := LA2.later q1
   replace LX := LX.later q1
   replace LY := LY.later q1
   replace LS1 := LS1.later q1
   replace LS2 := LS2.later q1
   replace LS := LS.later q1
   replace LT := LT.later q1
   replace LU1 := LU1.later q1
   replace LU2 := LU2.later q1
   replace LU := LU.later q1
   replace LL := LL.later q1
   replace LV := LV.later q1
   replace LQ := LQ.later q1
   replace Lp := Lp.later q1
   replace LR := LR.later q1
   replace Lq := Lq.later q1
   replace Q := Q.trans (q1.mono Q.size)
   clear q1 MK
   obtain ⟨Mp, Mq, rfl, _, _⟩ := LM1.shape
   obtain ⟨Mr, Ms, rfl, _, _⟩ := LM2.shape
   have k303 := Lp.cell 0 _ rfl
   have k304 := Lp.cell 1 _ rfl
   have k305 := Lq.cell 0 _ rfl
   have k306 := Lq.cell 1 _ rfl
   have qa := newA mj12 (.cells #[.slice Mp ja12.length Mq, .slice Mr jb12.length Ms] 24)
   have LM := Has.new mj12 24 #[.slice Mp ja12.length Mq, .slice Mr jb12.length Ms]
   obtain ⟨V40, hV40⟩ : ∃ V40, mj12.alloc (.cells #[.slice Mp ja12.length Mq, .slice Mr jb12.length Ms] 24) = V40 := ⟨_, rfl⟩
   rw [hV40] at qa LM
   replace LA1 := LA1.later qa
   replace LA2 := LA2.later qa
   replace LX := LX.later qa
   replace LY := LY.later qa
   replace LS1 := LS1.later qa
   replace LS2 := LS2.later qa
   replace LS := LS.later qa
   replace LT := LT.later qa
   replace LU1 := LU1.later qa
   replace LU2 := LU2.later qa
   replace LU := LU.later qa
   replace LL := LL.later qa
   replace LV := LV.later qa
   replace LQ := LQ.later qa
   replace Lp := Lp.later qa
   replace LR := LR.later qa
   replace Lq := Lq.later qa
   replace LM1 := LM1.later qa
   replace LM2 := LM2.later qa
   replace Q := Q.trans (qa.mono Q.size)
   clear qa
   have k307 := Lp.cell 0 _ rfl
   have k308 := Lp.cell 1 _ rfl
   have k309 := Lq.cell 0 _ rfl
   have k310 := Lq.cell 1 _ rfl
   go_wp2_with fail
   generalize mj12.heap.size = gM12 at *
   clear hV40 k307 k308 k309 k310 k303 k304 k305 k306
   refine (RK.out V40 ⟨_, _, rfl, LA1, LA2⟩ ⟨_, _, rfl, LU1, LU2⟩).mono ?_
   rintro _ nj12 ⟨Nx, Ny, rfl, LN1, LN2, q1⟩
   replace LA1 := LA1.later q1
   replace LA2 := LA2.later q1
   replace LX := LX.later q1
   replace LY := LY.later q1
   replace LS1 := LS1.later q1
   replace LS2 := LS2.later q1
   replace LS := LS.later q1
   replace LT := LT.later q1
   replace LU1 := LU1.later q1
   replace LU2 := LU2.later q1
   replace LU := LU.later q1
   replace LL := LL.later q1
   replace LV := LV.later q1
   replace LQ := LQ.later q1
   replace Lp := Lp.later q1
   replace LR := LR.later q1
   replace Lq := Lq.later q1
   replace LM1 := LM1.later q1
   replace LM2 := LM2.later q1
   replace LM := LM.later q1
   replace Q := Q.trans (q1.mono Q.size)
   clear q1 RK
   obtain ⟨Np, Nq, rfl, _, _⟩ := LN1.shape
   obtain ⟨Nr, Ns, rfl, _, _⟩ := LN2.shape
   have qa := newA nj12 (.cells #[.slice Np ja12.length Nq, .slice Nr jb12.length Ns] 24)
   have LN := Has.new nj12 24 #[.slice Np ja12.length Nq, .slice Nr jb12.length Ns]
   obtain ⟨V41, hV41⟩ : ∃ V41, nj12.alloc (.cells #[.slice Np ja12.length Nq, .slice Nr jb12.length Ns] 24) = V41 := ⟨_, rfl⟩
   rw [hV41] at qa LN
   replace LA1 := LA1.later qa
   replace LA2 := LA2.later qa
   replace LX := LX.later qa
   replace LY := LY.later qa
   replace LS1 := LS1.later qa
   replace LS2 := LS2.later qa
   replace LS := LS.later qa
   replace LT := LT.later qa
   replace LU1 := LU1.later qa
   replace LU2 := LU2.later qa
   replace LU := LU.later qa
   replace LL := LL.later qa
   replace LV := LV.later qa
   replace LQ := LQ.later qa
   replace Lp := Lp.later qa
   replace LR := LR.later qa
   replace Lq := Lq.later qa
   replace LM1 := LM1.later qa
   replace LM2 := LM2.later qa
   replace LM := LM.later qa
   replace LN1 := LN1.later qa
   replace LN2 := LN2.later qa
   replace Q := Q.trans (qa.mono Q.size)
   clear qa
   go_wp2_with fail
   generalize nj12.heap.size = gN12 at *
   clear hV41  
   have KP := hid (sets_load Lp)
   have KQ := hid (sets_load Lq)
   have KM := hid (sets_load LM)
   have KN := hid (sets_load LN)
   have ec := clash_one (ta) (tb) (setN z2) (setN [])
   obtain ⟨cb12, hcb⟩ : ∃ b, (oneB (tb) (setN z2) (setN []) || oneB (setN []) (ta) (tb)) = b := ⟨_, rfl⟩
   have CA := hid (show ∀ z : Ext V41, Calls Try.prog 20 #[.agg #[.slice (uptoK a1 c1) m1 c1, .slice (uptoK a2 c2) m2 c2], .agg #[.slice b3 p3 d3, .slice b4 p4 d4]] z.w (fun e w' => e = .returned (.bool cb12) ∧ ∃ x : Ext V41, w' = x.w) from fun z => by
    have h := Ext.atK (kclash_any z.w (.agg #[.slice (uptoK a1 c1) m1 c1, .slice (uptoK a2 c2) m2 c2]) (.agg #[.slice b3 p3 d3, .slice b4 p4 d4]) (ta) (tb) (setN z2) (setN []) ⟨_, _, rfl, LA1.later z.below, LA2.later z.below⟩ ⟨_, _, rfl, LU1.later z.below, LU2.later z.below⟩ HLEN.out.2.1.2 HLEN.out.2.2.1 HLEN.out.1.2 HLEN.out.2.1.1)
    rw [ec, hcb] at h
    exact h)
   have CB := hid (show ∀ z : Ext V41, Calls Try.prog 21 #[.agg #[.slice (uptoK a1 c1) m1 c1, .slice (uptoK a2 c2) m2 c2], .agg #[.slice b3 p3 d3, .slice b4 p4 d4]] z.w (fun e w' => e = .returned (.bool cb12) ∧ ∃ x : Ext V41, w' = x.w) from fun z => by
    have h := Ext.atK (rclash_any z.w (.agg #[.slice (uptoK a1 c1) m1 c1, .slice (uptoK a2 c2) m2 c2]) (.agg #[.slice b3 p3 d3, .slice b4 p4 d4]) (ta) (tb) (setN z2) (setN []) ⟨_, _, rfl, LA1.later z.below, LA2.later z.below⟩ ⟨_, _, rfl, LU1.later z.below, LU2.later z.below⟩)
    rw [hcb] at h
    exact h)
   have CC := hid (show ∀ z : Ext V41, Calls Try.prog 13 #[.agg #[.slice Mp ja12.length Mq, .slice Mr jb12.length Ms], .agg #[.slice Np ja12.length Nq, .slice Nr jb12.length Ns]] z.w (fun e w' => e = .returned (.bool true) ∧ ∃ x : Ext V41, w' = x.w) from fun z => by
    have h := Ext.atK (ksets_any z.w (.agg #[.slice Mp ja12.length Mq, .slice Mr jb12.length Ms]) (.agg #[.slice Np ja12.length Nq, .slice Nr jb12.length Ns]) ja12 jb12 ja12 jb12 ⟨_, _, rfl, LM1.later z.below, LM2.later z.below⟩ ⟨_, _, rfl, LN1.later z.below, LN2.later z.below⟩)
    rw [show (decide (ja12 = ja12) && decide (jb12 = jb12)) = true by simp] at h
    exact h)
   clear ec hcb
   try simp only [List.append]
   refine wp_region_quietL (C := Grows V41) hmx (by kernel_rfl) (grows_refl V41) ?_
   repeat (first | (with_reducible refine wpQuiet_load rfl 24 _ rfl _ rfl _ KP.out ?_; simp only [Act.put, sT, sS, sZ]) | (with_reducible refine wpQuiet_load rfl 24 _ rfl _ rfl _ KQ.out ?_; simp only [Act.put, sT, sS, sZ]) | (with_reducible refine wpQuiet_load rfl 24 _ rfl _ rfl _ KM.out ?_; simp only [Act.put, sT, sS, sZ]) | (with_reducible refine wpQuiet_load rfl 24 _ rfl _ rfl _ KN.out ?_; simp only [Act.put, sT, sS, sZ]) | (go_big_quiet_step (first | (with_reducible exact CA.out _) | (with_reducible exact CB.out _) | (with_reducible exact CC.out _))))
   refine wpQuiet_nil ?_
   rintro _ ⟨zwc12, rfl⟩
   have qa := zwc12.below
   replace LA1 := LA1.later qa
   replace LA2 := LA2.later qa
   replace LX := LX.later qa
   replace LY := LY.later qa
   replace LS1 := LS1.later qa
   replace LS2 := LS2.later qa
   replace LS := LS.later qa
   replace LT := LT.later qa
   replace LU1 := LU1.later qa
   replace LU2 := LU2.later qa
   replace LU := LU.later qa
   replace LL := LL.later qa
   replace LV := LV.later qa
   replace LQ := LQ.later qa
   replace Lp := Lp.later qa
   replace LR := LR.later qa
   replace Lq := Lq.later qa
   replace LM1 := LM1.later qa
   replace LM2 := LM2.later qa
   replace LM := LM.later qa
   replace LN1 := LN1.later qa
   replace LN2 := LN2.later qa
   replace LN := LN.later qa
   replace Q := Q.trans (qa.mono Q.size)
   clear qa
   generalize zwc12.w = wc12 at *
   clear KP KQ KM KN CA CB CC
   clear Lq LM LN LM1 LM2 LN1 LN2
   go_wp2
   rw [rounds_succ]
   clear LR Lp
   go_wp2
   rw [rounds_succ]
   have k311 := LQ.cell 0 _ rfl
   have k312 := LQ.cell 1 _ rfl
   have k313 := LQ.cell 2 _ rfl
   have k314 := LQ.cell 3 _ rfl
   have k315 := LQ.cell 4 _ rfl
   have k316 := LQ.cell 5 _ rfl
   have qa := newA wc12 (.cells #[.slice lv ln lc, .slice b2 p2 d2] 24)
   have Lp := Has.new wc12 24 #[.slice lv ln lc, .slice b2 p2 d2]
   obtain ⟨V42, hV42⟩ : ∃ V42, wc12.alloc (.cells #[.slice lv ln lc, .slice b2 p2 d2] 24) = V42 := ⟨_, rfl⟩
   rw [hV42] at qa Lp
   replace LA1 := LA1.later qa
   replace LA2 := LA2.later qa
   replace LX := LX.later qa
   replace LY := LY.later qa
   replace LS1 := LS1.later qa
   replace LS2 := LS2.later qa
   replace LS := LS.later qa
   replace LT := LT.later qa
   replace LU1 := LU1.later qa
   replace LU2 := LU2.later qa
   replace LU := LU.later qa
   replace LL := LL.later qa
   replace LV := LV.later qa
   replace LQ := LQ.later qa
   replace Q := Q.trans (qa.mono Q.size)
   clear qa
   have k317 := LQ.cell 0 _ rfl
   have k318 := LQ.cell 1 _ rfl
   have k319 := LQ.cell 2 _ rfl
   have k320 := LQ.cell 3 _ rfl
   have k321 := LQ.cell 4 _ rfl
   have k322 := LQ.cell 5 _ rfl
   go_wp2_with fail
   generalize wc12.heap.size = gp2 at *
   clear hV42 k317 k318 k319 k320 k321 k322 k311 k312 k313 k314 k315 k316
   have KP := hid (sets_load Lp)
   have KA := hid (fun z : Ext V42 => Ext.atK (kright_any z.w (.agg #[.slice lv ln lc, .slice b2 p2 d2]) (lk) (setN z2) ⟨_, _, rfl, LL.later z.below, LS2.later z.below⟩))
   have KB := hid (fun z : Ext V42 => Ext.atK (rRight_any z.w (.agg #[.slice lv ln lc, .slice b2 p2 d2]) (lk) (setN z2) ⟨_, _, rfl, LL.later z.below, LS2.later z.below⟩))
   generalize (fitB (lk) && fitB (setN z2)) = fb2 at *
   try simp only [List.append]
   refine wp_region_quietL (C := Grows V42) hmx (by kernel_rfl) (grows_refl V42) ?_
   repeat (first | (with_reducible refine wpQuiet_load rfl 24 _ rfl _ rfl _ KP.out ?_; simp only [Act.put, sT, sS, sZ]) | (go_big_quiet_step (first | (with_reducible exact KA.out _) | (with_reducible exact KB.out _))))
   refine wpQuiet_nil ?_
   rintro _ ⟨zwr2, rfl⟩
   have qa := zwr2.below
   replace LA1 := LA1.later qa
   replace LA2 := LA2.later qa
   replace LX := LX.later qa
   replace LY := LY.later qa
   replace LS1 := LS1.later qa
   replace LS2 := LS2.later qa
   replace LS := LS.later qa
   replace LT := LT.later qa
   replace LU1 := LU1.later qa
   replace LU2 := LU2.later qa
   replace LU := LU.later qa
   replace LL := LL.later qa
   replace LV := LV.later qa
   replace LQ := LQ.later qa
   replace Lp := Lp.later qa
   replace Q := Q.trans (qa.mono Q.size)
   clear qa
   generalize zwr2.w = wr2 at *
   clear KP KA KB
   have kx := LX.kyLoad
   have ky := LY.kyLoad
   have qa := newA wr2 (.cells (flatKy [x, y]).toArray 31)
   have LK := keys_made wr2 [x, y] (by intro z hz; simp at hz; rcases hz with rfl | rfl; exact HX.out; exact HY.out) (by simp)
   obtain ⟨V43, hV43⟩ : ∃ V43, wr2.alloc (.cells (flatKy [x, y]).toArray 31) = V43 := ⟨_, rfl⟩
   rw [hV43] at qa LK
   replace LA1 := LA1.later qa
   replace LA2 := LA2.later qa
   replace LX := LX.later qa
   replace LY := LY.later qa
   replace LS1 := LS1.later qa
   replace LS2 := LS2.later qa
   replace LS := LS.later qa
   replace LT := LT.later qa
   replace LU1 := LU1.later qa
   replace LU2 := LU2.later qa
   replace LU := LU.later qa
   replace LL := LL.later qa
   replace LV := LV.later qa
   replace LQ := LQ.later qa
   replace Lp := Lp.later qa
   replace Q := Q.trans (qa.mono Q.size)
   clear qa
   go_wp2_with (first | (refine wpList_load_known rfl _ (.tmp 7) rfl _ rfl _ kx ?_) | (refine wpList_load_known rfl _ (.tmp 8) rfl _ rfl _ ky ?_) | (refine wpList_build_k2 rfl (.tmp 145) (.tmp 146) rfl x y rfl rfl ?_))
   generalize wr2.heap.size = gK2 at *
   try rw [hV43]
   clear hV43 kx ky
   refine wp_loop_rounds 3 ?_
   rw [rounds_succ]
   have hk0 : (loadVar 31 ⟨gK2, 0, none⟩).run Try.prog V43 = .ok (.agg (kyC x)) V43 := by
    have h := (LK.in (i := 0) rfl).load
    rw [add_lit] at h
    exact h
   have HZ := Has.new V43 31 #[.int .u8 0, .int .u8 0, .int .u8 0, .int .u8 0, .int .u8 0, .int .u8 0, .int .u8 0, .int .u8 0, .int .u8 0, .int .u8 0, .int .u8 0, .int .u8 0, .int .u8 0, .int .u8 0, .int .u8 0, .int .u8 0, .int .u8 0, .int .u8 0, .int .u8 0, .int .u8 0, .bool false, .int .u64 0, .int .u64 0, .int .u64 0, .int .u64 0]
   have qa := below_rowK (newA V43 (.cells #[.int .u8 0, .int .u8 0, .int .u8 0, .int .u8 0, .int .u8 0, .int .u8 0, .int .u8 0, .int .u8 0, .int .u8 0, .int .u8 0, .int .u8 0, .int .u8 0, .int .u8 0, .int .u8 0, .int .u8 0, .int .u8 0, .int .u8 0, .int .u8 0, .int .u8 0, .int .u8 0, .bool false, .int .u64 0, .int .u64 0, .int .u64 0, .int .u64 0] 31)) (g := V43.heap.size) (Nat.le_refl _) (kyC x)
   have Lk : Has ((V43.alloc (.cells #[.int .u8 0, .int .u8 0, .int .u8 0, .int .u8 0, .int .u8 0, .int .u8 0, .int .u8 0, .int .u8 0, .int .u8 0, .int .u8 0, .int .u8 0, .int .u8 0, .int .u8 0, .int .u8 0, .int .u8 0, .int .u8 0, .int .u8 0, .int .u8 0, .int .u8 0, .int .u8 0, .bool false, .int .u64 0, .int .u64 0, .int .u64 0, .int .u64 0] 31)).setRow V43.heap.size (kyC x)) V43.heap.size 31 (kyC x) := setRow_heap _ _ _ _ _ _ HZ
   have HI : (Try.prog.info? 31).map (·.size) = some (kyC x).size := by rw [kyC_size]; exact infoKy
   have HI := hid HI
   have HSZ := hid (show (#[.int .u8 0, .int .u8 0, .int .u8 0, .int .u8 0, .int .u8 0, .int .u8 0, .int .u8 0, .int .u8 0, .int .u8 0, .int .u8 0, .int .u8 0, .int .u8 0, .int .u8 0, .int .u8 0, .int .u8 0, .int .u8 0, .int .u8 0, .int .u8 0, .int .u8 0, .int .u8 0, .bool false, .int .u64 0, .int .u64 0, .int .u64 0, .int .u64 0] : Array Value).size = (kyC x).size by rw [kyC_size]; rfl)
   have HON := hid (kyC_one x)
   have HZ := hid HZ
   obtain ⟨V44, hV44⟩ : ∃ V44, (V43.alloc (.cells #[.int .u8 0, .int .u8 0, .int .u8 0, .int .u8 0, .int .u8 0, .int .u8 0, .int .u8 0, .int .u8 0, .int .u8 0, .int .u8 0, .int .u8 0, .int .u8 0, .int .u8 0, .int .u8 0, .int .u8 0, .int .u8 0, .int .u8 0, .int .u8 0, .int .u8 0, .int .u8 0, .bool false, .int .u64 0, .int .u64 0, .int .u64 0, .int .u64 0] 31)).setRow V43.heap.size (kyC x) = V44 := ⟨_, rfl⟩
   rw [hV44] at qa Lk
   replace LA1 := LA1.later qa
   replace LA2 := LA2.later qa
   replace LX := LX.later qa
   replace LY := LY.later qa
   replace LS1 := LS1.later qa
   replace LS2 := LS2.later qa
   replace LS := LS.later qa
   replace LT := LT.later qa
   replace LU1 := LU1.later qa
   replace LU2 := LU2.later qa
   replace LU := LU.later qa
   replace LL := LL.later qa
   replace LV := LV.later qa
   replace LQ := LQ.later qa
   replace Lp := Lp.later qa
   replace LK := LK.later qa
   replace Q := Q.trans (qa.mono Q.size)
   clear qa
   have HV44 := hid hV44
   clear hV44
   go_wp2_with (first | (refine wpList_load_known rfl _ (.tmp 151) rfl _ rfl _ hk0 ?_) | (refine wpList_store_row rfl _ (.tmp 29) (.tmp 152) rfl _ _ rfl rfl _ _ HZ.out HI.out HSZ.out HON.out ?_))
   generalize V43.heap.size = gk20 at *
   try rw [HV44.out]
   clear HV44 HZ HI HSZ HON hk0
   have KP := hid (sets_load Lp)
   have KK := hid (show ∀ z : World, Grows V44 z → (loadVar 31 ⟨gk20, 0, none⟩).run Try.prog z = .ok (.agg (kyC x)) z from fun z hz => by obtain ⟨q, rfl⟩ := hz; exact (Lk.later q.below).kyLoad)
   have ea := any_amid x (lk)
   have eb := any_amid x (setN z2)
   obtain ⟨bt20, hbt⟩ : ∃ b, (amidB x (setN z2) || (!true && amidB x (lk))) = b := ⟨_, rfl⟩
   obtain ⟨bf20, hbf⟩ : ∃ b, (amidB x (setN z2) || (!false && amidB x (lk))) = b := ⟨_, rfl⟩
   have MA := hid (show ∀ z : Ext V44, Calls Try.prog 16 #[.agg #[.slice lv ln lc, .slice b2 p2 d2], .agg (kyC x), .bool true] z.w (fun e w' => e = .returned (.bool bt20) ∧ ∃ x : Ext V44, w' = x.w) from fun z => by
    have h := Ext.atK (kmay_any z.w (.agg #[.slice lv ln lc, .slice b2 p2 d2]) (lk) (setN z2) x true HX.out ⟨_, _, rfl, LL.later z.below, LS2.later z.below⟩)
    rw [ea, eb, hbt] at h
    exact h)
   have MB := hid (show ∀ z : Ext V44, Calls Try.prog 17 #[.agg #[.slice lv ln lc, .slice b2 p2 d2], .agg (kyC x), .bool true] z.w (fun e w' => e = .returned (.bool bt20) ∧ ∃ x : Ext V44, w' = x.w) from fun z => by
    have h := Ext.atK (rMay_any z.w (.agg #[.slice lv ln lc, .slice b2 p2 d2]) (lk) (setN z2) x true HX.out ⟨_, _, rfl, LL.later z.below, LS2.later z.below⟩)
    rw [hbt] at h
    exact h)
   have MC := hid (show ∀ z : Ext V44, Calls Try.prog 16 #[.agg #[.slice lv ln lc, .slice b2 p2 d2], .agg (kyC x), .bool false] z.w (fun e w' => e = .returned (.bool bf20) ∧ ∃ x : Ext V44, w' = x.w) from fun z => by
    have h := Ext.atK (kmay_any z.w (.agg #[.slice lv ln lc, .slice b2 p2 d2]) (lk) (setN z2) x false HX.out ⟨_, _, rfl, LL.later z.below, LS2.later z.below⟩)
    rw [ea, eb, hbf] at h
    exact h)
   have MD := hid (show ∀ z : Ext V44, Calls Try.prog 17 #[.agg #[.slice lv ln lc, .slice b2 p2 d2], .agg (kyC x), .bool false] z.w (fun e w' => e = .returned (.bool bf20) ∧ ∃ x : Ext V44, w' = x.w) from fun z => by
    have h := Ext.atK (rMay_any z.w (.agg #[.slice lv ln lc, .slice b2 p2 d2]) (lk) (setN z2) x false HX.out ⟨_, _, rfl, LL.later z.below, LS2.later z.below⟩)
    rw [hbf] at h
    exact h)
   clear ea eb hbt hbf
   try simp only [List.append]
   refine wp_region_quietL (C := Grows V44) hmx (by kernel_rfl) (grows_refl V44) ?_
   repeat (first | (with_reducible refine wpQuiet_load rfl 24 _ rfl _ rfl _ KP.out ?_; simp only [Act.put, sT, sS, sZ]) | (with_reducible refine wpQuiet_load rfl 31 _ rfl _ rfl _ KK.out ?_; simp only [Act.put, sT, sS, sZ]) | (go_big_quiet_step (first | (with_reducible exact MA.out _) | (with_reducible exact MB.out _) | (with_reducible exact MC.out _) | (with_reducible exact MD.out _))))
   refine wpQuiet_nil ?_
   rintro _ ⟨zwm20, rfl⟩
   have qa := zwm20.below
   replace LA1 := LA1.later qa
   replace LA2 := LA2.later qa
   replace LX := LX.later qa
   replace LY := LY.later qa
   replace LS1 := LS1.later qa
   replace LS2 := LS2.later qa
   replace LS := LS.later qa
   replace LT := LT.later qa
   replace LU1 := LU1.later qa
   replace LU2 := LU2.later qa
   replace LU := LU.later qa
   replace LL := LL.later qa
   replace LV := LV.later qa
   replace LQ := LQ.later qa
   replace Lp := Lp.later qa
   replace LK := LK.later qa
   replace Lk := Lk.later qa
   replace Q := Q.trans (qa.mono Q.size)
   clear qa
   generalize zwm20.w = wm20 at *
   clear KP KK MA MB MC MD
   clear Lk
   go_wp2
   rw [rounds_succ]
   have hk0 : (loadVar 31 ⟨gK2, 25, none⟩).run Try.prog wm20 = .ok (.agg (kyC y)) wm20 := by
    have h := (LK.in (i := 1) rfl).load
    rw [add_lit] at h
    exact h
   have HZ := Has.new wm20 31 #[.int .u8 0, .int .u8 0, .int .u8 0, .int .u8 0, .int .u8 0, .int .u8 0, .int .u8 0, .int .u8 0, .int .u8 0, .int .u8 0, .int .u8 0, .int .u8 0, .int .u8 0, .int .u8 0, .int .u8 0, .int .u8 0, .int .u8 0, .int .u8 0, .int .u8 0, .int .u8 0, .bool false, .int .u64 0, .int .u64 0, .int .u64 0, .int .u64 0]
   have qa := below_rowK (newA wm20 (.cells #[.int .u8 0, .int .u8 0, .int .u8 0, .int .u8 0, .int .u8 0, .int .u8 0, .int .u8 0, .int .u8 0, .int .u8 0, .int .u8 0, .int .u8 0, .int .u8 0, .int .u8 0, .int .u8 0, .int .u8 0, .int .u8 0, .int .u8 0, .int .u8 0, .int .u8 0, .int .u8 0, .bool false, .int .u64 0, .int .u64 0, .int .u64 0, .int .u64 0] 31)) (g := wm20.heap.size) (Nat.le_refl _) (kyC y)
   have Lk : Has ((wm20.alloc (.cells #[.int .u8 0, .int .u8 0, .int .u8 0, .int .u8 0, .int .u8 0, .int .u8 0, .int .u8 0, .int .u8 0, .int .u8 0, .int .u8 0, .int .u8 0, .int .u8 0, .int .u8 0, .int .u8 0, .int .u8 0, .int .u8 0, .int .u8 0, .int .u8 0, .int .u8 0, .int .u8 0, .bool false, .int .u64 0, .int .u64 0, .int .u64 0, .int .u64 0] 31)).setRow wm20.heap.size (kyC y)) wm20.heap.size 31 (kyC y) := setRow_heap _ _ _ _ _ _ HZ
   have HI : (Try.prog.info? 31).map (·.size) = some (kyC y).size := by rw [kyC_size]; exact infoKy
   have HI := hid HI
   have HSZ := hid (show (#[.int .u8 0, .int .u8 0, .int .u8 0, .int .u8 0, .int .u8 0, .int .u8 0, .int .u8 0, .int .u8 0, .int .u8 0, .int .u8 0, .int .u8 0, .int .u8 0, .int .u8 0, .int .u8 0, .int .u8 0, .int .u8 0, .int .u8 0, .int .u8 0, .int .u8 0, .int .u8 0, .bool false, .int .u64 0, .int .u64 0, .int .u64 0, .int .u64 0] : Array Value).size = (kyC y).size by rw [kyC_size]; rfl)
   have HON := hid (kyC_one y)
   have HZ := hid HZ
   obtain ⟨V45, hV45⟩ : ∃ V45, (wm20.alloc (.cells #[.int .u8 0, .int .u8 0, .int .u8 0, .int .u8 0, .int .u8 0, .int .u8 0, .int .u8 0, .int .u8 0, .int .u8 0, .int .u8 0, .int .u8 0, .int .u8 0, .int .u8 0, .int .u8 0, .int .u8 0, .int .u8 0, .int .u8 0, .int .u8 0, .int .u8 0, .int .u8 0, .bool false, .int .u64 0, .int .u64 0, .int .u64 0, .int .u64 0] 31)).setRow wm20.heap.size (kyC y) = V45 := ⟨_, rfl⟩
   rw [hV45] at qa Lk
   replace LA1 := LA1.later qa
   replace LA2 := LA2.later qa
   replace LX := LX.later qa
   replace LY := LY.later qa
   replace LS1 := LS1.later qa
   replace LS2 := LS2.later qa
   replace LS := LS.later qa
   replace LT := LT.later qa
   replace LU1 := LU1.later qa
   replace LU2 := LU2.later qa
   replace LU := LU.later qa
   replace LL := LL.later qa
   replace LV := LV.later qa
   replace LQ := LQ.later qa
   replace Lp := Lp.later qa
   replace LK := LK.later qa
   replace Q := Q.trans (qa.mono Q.size)
   clear qa
   have HV45 := hid hV45
   clear hV45
   go_wp2_with (first | (refine wpList_load_known rfl _ (.tmp 151) rfl _ rfl _ hk0 ?_) | (refine wpList_store_row rfl _ (.tmp 29) (.tmp 152) rfl _ _ rfl rfl _ _ HZ.out HI.out HSZ.out HON.out ?_))
   generalize wm20.heap.size = gk21 at *
   try rw [HV45.out]
   clear HV45 HZ HI HSZ HON hk0
   have KP := hid (sets_load Lp)
   have KK := hid (show ∀ z : World, Grows V45 z → (loadVar 31 ⟨gk21, 0, none⟩).run Try.prog z = .ok (.agg (kyC y)) z from fun z hz => by obtain ⟨q, rfl⟩ := hz; exact (Lk.later q.below).kyLoad)
   have ea := any_amid y (lk)
   have eb := any_amid y (setN z2)
   obtain ⟨bt21, hbt⟩ : ∃ b, (amidB y (setN z2) || (!true && amidB y (lk))) = b := ⟨_, rfl⟩
   obtain ⟨bf21, hbf⟩ : ∃ b, (amidB y (setN z2) || (!false && amidB y (lk))) = b := ⟨_, rfl⟩
   have MA := hid (show ∀ z : Ext V45, Calls Try.prog 16 #[.agg #[.slice lv ln lc, .slice b2 p2 d2], .agg (kyC y), .bool true] z.w (fun e w' => e = .returned (.bool bt21) ∧ ∃ x : Ext V45, w' = x.w) from fun z => by
    have h := Ext.atK (kmay_any z.w (.agg #[.slice lv ln lc, .slice b2 p2 d2]) (lk) (setN z2) y true HY.out ⟨_, _, rfl, LL.later z.below, LS2.later z.below⟩)
    rw [ea, eb, hbt] at h
    exact h)
   have MB := hid (show ∀ z : Ext V45, Calls Try.prog 17 #[.agg #[.slice lv ln lc, .slice b2 p2 d2], .agg (kyC y), .bool true] z.w (fun e w' => e = .returned (.bool bt21) ∧ ∃ x : Ext V45, w' = x.w) from fun z => by
    have h := Ext.atK (rMay_any z.w (.agg #[.slice lv ln lc, .slice b2 p2 d2]) (lk) (setN z2) y true HY.out ⟨_, _, rfl, LL.later z.below, LS2.later z.below⟩)
    rw [hbt] at h
    exact h)
   have MC := hid (show ∀ z : Ext V45, Calls Try.prog 16 #[.agg #[.slice lv ln lc, .slice b2 p2 d2], .agg (kyC y), .bool false] z.w (fun e w' => e = .returned (.bool bf21) ∧ ∃ x : Ext V45, w' = x.w) from fun z => by
    have h := Ext.atK (kmay_any z.w (.agg #[.slice lv ln lc, .slice b2 p2 d2]) (lk) (setN z2) y false HY.out ⟨_, _, rfl, LL.later z.below, LS2.later z.below⟩)
    rw [ea, eb, hbf] at h
    exact h)
   have MD := hid (show ∀ z : Ext V45, Calls Try.prog 17 #[.agg #[.slice lv ln lc, .slice b2 p2 d2], .agg (kyC y), .bool false] z.w (fun e w' => e = .returned (.bool bf21) ∧ ∃ x : Ext V45, w' = x.w) from fun z => by
    have h := Ext.atK (rMay_any z.w (.agg #[.slice lv ln lc, .slice b2 p2 d2]) (lk) (setN z2) y false HY.out ⟨_, _, rfl, LL.later z.below, LS2.later z.below⟩)
    rw [hbf] at h
    exact h)
   clear ea eb hbt hbf
   try simp only [List.append]
   refine wp_region_quietL (C := Grows V45) hmx (by kernel_rfl) (grows_refl V45) ?_
   repeat (first | (with_reducible refine wpQuiet_load rfl 24 _ rfl _ rfl _ KP.out ?_; simp only [Act.put, sT, sS, sZ]) | (with_reducible refine wpQuiet_load rfl 31 _ rfl _ rfl _ KK.out ?_; simp only [Act.put, sT, sS, sZ]) | (go_big_quiet_step (first | (with_reducible exact MA.out _) | (with_reducible exact MB.out _) | (with_reducible exact MC.out _) | (with_reducible exact MD.out _))))
   refine wpQuiet_nil ?_
   rintro _ ⟨zwm21, rfl⟩
   have qa := zwm21.below
   replace LA1 := LA1.later qa
   replace LA2 := LA2.later qa
   replace LX := LX.later qa
   replace LY := LY.later qa
   replace LS1 := LS1.later qa
   replace LS2 := LS2.later qa
   replace LS := LS.later qa
   replace LT := LT.later qa
   replace LU1 := LU1.later qa
   replace LU2 := LU2.later qa
   replace LU := LU.later qa
   replace LL := LL.later qa
   replace LV := LV.later qa
   replace LQ := LQ.later qa
   replace Lp := Lp.later qa
   replace LK := LK.later qa
   replace Lk := Lk.later qa
   replace Q := Q.trans (qa.mono Q.size)
   clear qa
   generalize zwm21.w = wm21 at *
   clear KP KK MA MB MC MD
   clear Lk
   go_wp2
   rw [rounds_succ]
   clear LK
   have k323 := LS.cell 0 _ rfl
   have k324 := LS.cell 1 _ rfl
   have k325 := LT.cell 0 _ rfl
   have k326 := LT.cell 1 _ rfl
   have k327 := LU.cell 0 _ rfl
   have k328 := LU.cell 1 _ rfl
   have qa := newA wm21 (.cells #[.slice b1 p1 d1, .slice b2 p2 d2, .slice (uptoK a1 c1) m1 c1, .slice (uptoK a2 c2) m2 c2, .slice b3 p3 d3, .slice b4 p4 d4] 24)
   have LR := Has.new wm21 24 #[.slice b1 p1 d1, .slice b2 p2 d2, .slice (uptoK a1 c1) m1 c1, .slice (uptoK a2 c2) m2 c2, .slice b3 p3 d3, .slice b4 p4 d4]
   obtain ⟨V46, hV46⟩ : ∃ V46, wm21.alloc (.cells #[.slice b1 p1 d1, .slice b2 p2 d2, .slice (uptoK a1 c1) m1 c1, .slice (uptoK a2 c2) m2 c2, .slice b3 p3 d3, .slice b4 p4 d4] 24) = V46 := ⟨_, rfl⟩
   rw [hV46] at qa LR
   replace LA1 := LA1.later qa
   replace LA2 := LA2.later qa
   replace LX := LX.later qa
   replace LY := LY.later qa
   replace LS1 := LS1.later qa
   replace LS2 := LS2.later qa
   replace LS := LS.later qa
   replace LT := LT.later qa
   replace LU1 := LU1.later qa
   replace LU2 := LU2.later qa
   replace LU := LU.later qa
   replace LL := LL.later qa
   replace LV := LV.later qa
   replace LQ := LQ.later qa
   replace Lp := Lp.later qa
   replace Q := Q.trans (qa.mono Q.size)
   clear qa
   have k329 := LS.cell 0 _ rfl
   have k330 := LS.cell 1 _ rfl
   have k331 := LT.cell 0 _ rfl
   have k332 := LT.cell 1 _ rfl
   have k333 := LU.cell 0 _ rfl
   have k334 := LU.cell 1 _ rfl
   go_wp2_with fail
   generalize wm21.heap.size = gR2 at *
   clear hV46 k329 k330 k331 k332 k333 k334 k323 k324 k325 k326 k327 k328
   refine wp_loop_rounds 4 ?_
   rw [rounds_succ]
   obtain ⟨ja20, hja⟩ : ∃ l, (joinM (lk) (setN z2) (setN z1) (setN z2)).1 = l := ⟨_, rfl⟩
   obtain ⟨jb20, hjb⟩ : ∃ l, (joinM (lk) (setN z2) (setN z1) (setN z2)).2.1 = l := ⟨_, rfl⟩
   obtain ⟨jc20, hjc⟩ : ∃ l, (joinM (lk) (setN z2) (setN z1) (setN z2)).2.2 = l := ⟨_, rfl⟩
   have MK := hid (fun (Y : World) (i1 : SetsAt Y (.agg #[.slice lv ln lc, .slice b2 p2 d2]) (lk) (setN z2)) (i2 : SetsAt Y (.agg #[.slice b1 p1 d1, .slice b2 p2 d2]) (setN z1) (setN z2)) => (show Calls Try.prog 18 #[.agg #[.slice lv ln lc, .slice b2 p2 d2], .agg #[.slice b1 p1 d1, .slice b2 p2 d2]] Y (SetsP Y ja20 jb20 jc20) from by
    have h := kjoin_any Y _ _ _ _ _ _ i1 i2
    rw [hja, hjb, hjc] at h
    exact h).mono fun e w' h => h.ex)
   have RK := hid (fun (Y : World) (i1 : SetsAt Y (.agg #[.slice lv ln lc, .slice b2 p2 d2]) (lk) (setN z2)) (i2 : SetsAt Y (.agg #[.slice b1 p1 d1, .slice b2 p2 d2]) (setN z1) (setN z2)) => (show Calls Try.prog 19 #[.agg #[.slice lv ln lc, .slice b2 p2 d2], .agg #[.slice b1 p1 d1, .slice b2 p2 d2]] Y (SetsP Y ja20 jb20 jc20) from by
    have h := rjoin_any Y _ _ _ _ _ _ i1 i2
    rw [hja, hjb, hjc] at h
    exact h).mono fun e w' h => h.ex)
   clear hja hjb hjc
   have k335 := LR.cell 0 _ rfl
   have k336 := LR.cell 1 _ rfl
   have k337 := LR.cell 2 _ rfl
   have k338 := LR.cell 3 _ rfl
   have k339 := LR.cell 4 _ rfl
   have k340 := LR.cell 5 _ rfl
   have k341 := Lp.cell 0 _ rfl
   have k342 := Lp.cell 1 _ rfl
   have qa := newA V46 (.cells #[.slice b1 p1 d1, .slice b2 p2 d2] 24)
   have Lq := Has.new V46 24 #[.slice b1 p1 d1, .slice b2 p2 d2]
   obtain ⟨V47, hV47⟩ : ∃ V47, V46.alloc (.cells #[.slice b1 p1 d1, .slice b2 p2 d2] 24) = V47 := ⟨_, rfl⟩
   rw [hV47] at qa Lq
   replace LA1 := LA1.later qa
   replace LA2 := LA2.later qa
   replace LX := LX.later qa
   replace LY := LY.later qa
   replace LS1 := LS1.later qa
   replace LS2 := LS2.later qa
   replace LS := LS.later qa
   replace LT := LT.later qa
   replace LU1 := LU1.later qa
   replace LU2 := LU2.later qa
   replace LU := LU.later qa
   replace LL := LL.later qa
   replace LV := LV.later qa
   replace LQ := LQ.later qa
   replace Lp := Lp.later qa
   replace LR := LR.later qa
   replace Q := Q.trans (qa.mono Q.size)
   clear qa
   have k343 := LR.cell 0 _ rfl
   have k344 := LR.cell 1 _ rfl
   have k345 := LR.cell 2 _ rfl
   have k346 := LR.cell 3 _ rfl
   have k347 := LR.cell 4 _ rfl
   have k348 := LR.cell 5 _ rfl
   have k349 := Lp.cell 0 _ rfl
   have k350 := Lp.cell 1 _ rfl
   have k351 := Lq.cell 0 _ rfl
   have k352 := Lq.cell 1 _ rfl
   go_wp2_with fail
   generalize V46.heap.size = gq20 at *
   clear hV47 k343 k344 k345 k346 k347 k348 k349 k350 k351 k352 k335 k336 k337 k338 k339 k340 k341 k342
   refine (MK.out V47 ⟨_, _, rfl, LL, LS2⟩ ⟨_, _, rfl, LS1, LS2⟩).mono ?_
   rintro _ mj20 ⟨Mx, My, rfl, LM1, LM2, q1⟩
   replace LA1 := LA1.later q1
   replace LA2 := LA2.later q1
   replace LX := LX.later q1
   replace LY := LY.later q1
   replace LS1 := LS1.later q1
   replace LS2 := LS2.later q1
   replace LS := LS.later q1
   replace LT := LT.later q1
   replace LU1 := LU1.later q1
   replace LU2 := LU2.later q1
   replace LU := LU.later q1
   replace LL := LL.later q1
   replace LV := LV.later q1
   replace LQ := LQ.later q1
   replace Lp := Lp.later q1
   replace LR := LR.later q1
   replace Lq := Lq.later q1
   replace Q := Q.trans (q1.mono Q.size)
   clear q1 MK
   obtain ⟨Mp, Mq, rfl, _, _⟩ := LM1.shape
   obtain ⟨Mr, Ms, rfl, _, _⟩ := LM2.shape
   have k353 := Lp.cell 0 _ rfl
   have k354 := Lp.cell 1 _ rfl
   have k355 := Lq.cell 0 _ rfl
   have k356 := Lq.cell 1 _ rfl
   have qa := newA mj20 (.cells #[.slice Mp ja20.length Mq, .slice Mr jb20.length Ms] 24)
   have LM := Has.new mj20 24 #[.slice Mp ja20.length Mq, .slice Mr jb20.length Ms]
   obtain ⟨V48, hV48⟩ : ∃ V48, mj20.alloc (.cells #[.slice Mp ja20.length Mq, .slice Mr jb20.length Ms] 24) = V48 := ⟨_, rfl⟩
   rw [hV48] at qa LM
   replace LA1 := LA1.later qa
   replace LA2 := LA2.later qa
   replace LX := LX.later qa
   replace LY := LY.later qa
   replace LS1 := LS1.later qa
   replace LS2 := LS2.later qa
   replace LS := LS.later qa
   replace LT := LT.later qa
   replace LU1 := LU1.later qa
   replace LU2 := LU2.later qa
   replace LU := LU.later qa
   replace LL := LL.later qa
   replace LV := LV.later qa
   replace LQ := LQ.later qa
   replace Lp := Lp.later qa
   replace LR := LR.later qa
   replace Lq := Lq.later qa
   replace LM1 := LM1.later qa
   replace LM2 := LM2.later qa
   replace Q := Q.trans (qa.mono Q.size)
   clear qa
   have k357 := Lp.cell 0 _ rfl
   have k358 := Lp.cell 1 _ rfl
   have k359 := Lq.cell 0 _ rfl
   have k360 := Lq.cell 1 _ rfl
   go_wp2_with fail
   generalize mj20.heap.size = gM20 at *
   clear hV48 k357 k358 k359 k360 k353 k354 k355 k356
   refine (RK.out V48 ⟨_, _, rfl, LL, LS2⟩ ⟨_, _, rfl, LS1, LS2⟩).mono ?_
   rintro _ nj20 ⟨Nx, Ny, rfl, LN1, LN2, q1⟩
   replace LA1 := LA1.later q1
   replace LA2 := LA2.later q1
   replace LX := LX.later q1
   replace LY := LY.later q1
   replace LS1 := LS1.later q1
   replace LS2 := LS2.later q1
   replace LS := LS.later q1
   replace LT := LT.later q1
   replace LU1 := LU1.later q1
   replace LU2 := LU2.later q1
   replace LU := LU.later q1
   replace LL := LL.later q1
   replace LV := LV.later q1
   replace LQ := LQ.later q1
   replace Lp := Lp.later q1
   replace LR := LR.later q1
   replace Lq := Lq.later q1
   replace LM1 := LM1.later q1
   replace LM2 := LM2.later q1
   replace LM := LM.later q1
   replace Q := Q.trans (q1.mono Q.size)
   clear q1 RK
   obtain ⟨Np, Nq, rfl, _, _⟩ := LN1.shape
   obtain ⟨Nr, Ns, rfl, _, _⟩ := LN2.shape
   have qa := newA nj20 (.cells #[.slice Np ja20.length Nq, .slice Nr jb20.length Ns] 24)
   have LN := Has.new nj20 24 #[.slice Np ja20.length Nq, .slice Nr jb20.length Ns]
   obtain ⟨V49, hV49⟩ : ∃ V49, nj20.alloc (.cells #[.slice Np ja20.length Nq, .slice Nr jb20.length Ns] 24) = V49 := ⟨_, rfl⟩
   rw [hV49] at qa LN
   replace LA1 := LA1.later qa
   replace LA2 := LA2.later qa
   replace LX := LX.later qa
   replace LY := LY.later qa
   replace LS1 := LS1.later qa
   replace LS2 := LS2.later qa
   replace LS := LS.later qa
   replace LT := LT.later qa
   replace LU1 := LU1.later qa
   replace LU2 := LU2.later qa
   replace LU := LU.later qa
   replace LL := LL.later qa
   replace LV := LV.later qa
   replace LQ := LQ.later qa
   replace Lp := Lp.later qa
   replace LR := LR.later qa
   replace Lq := Lq.later qa
   replace LM1 := LM1.later qa
   replace LM2 := LM2.later qa
   replace LM := LM.later qa
   replace LN1 := LN1.later qa
   replace LN2 := LN2.later qa
   replace Q := Q.trans (qa.mono Q.size)
   clear qa
   go_wp2_with fail
   generalize nj20.heap.size = gN20 at *
   clear hV49  
   have KP := hid (sets_load Lp)
   have KQ := hid (sets_load Lq)
   have KM := hid (sets_load LM)
   have KN := hid (sets_load LN)
   have ec := clash_one (lk) (setN z2) (setN z1) (setN z2)
   obtain ⟨cb20, hcb⟩ : ∃ b, (oneB (setN z2) (setN z1) (setN z2) || oneB (setN z2) (lk) (setN z2)) = b := ⟨_, rfl⟩
   have CA := hid (show ∀ z : Ext V49, Calls Try.prog 20 #[.agg #[.slice lv ln lc, .slice b2 p2 d2], .agg #[.slice b1 p1 d1, .slice b2 p2 d2]] z.w (fun e w' => e = .returned (.bool cb20) ∧ ∃ x : Ext V49, w' = x.w) from fun z => by
    have h := Ext.atK (kclash_any z.w (.agg #[.slice lv ln lc, .slice b2 p2 d2]) (.agg #[.slice b1 p1 d1, .slice b2 p2 d2]) (lk) (setN z2) (setN z1) (setN z2) ⟨_, _, rfl, LL.later z.below, LS2.later z.below⟩ ⟨_, _, rfl, LS1.later z.below, LS2.later z.below⟩ HLEN.out.2.2.2 HLEN.out.1.2 HLEN.out.1.1 HLEN.out.1.2)
    rw [ec, hcb] at h
    exact h)
   have CB := hid (show ∀ z : Ext V49, Calls Try.prog 21 #[.agg #[.slice lv ln lc, .slice b2 p2 d2], .agg #[.slice b1 p1 d1, .slice b2 p2 d2]] z.w (fun e w' => e = .returned (.bool cb20) ∧ ∃ x : Ext V49, w' = x.w) from fun z => by
    have h := Ext.atK (rclash_any z.w (.agg #[.slice lv ln lc, .slice b2 p2 d2]) (.agg #[.slice b1 p1 d1, .slice b2 p2 d2]) (lk) (setN z2) (setN z1) (setN z2) ⟨_, _, rfl, LL.later z.below, LS2.later z.below⟩ ⟨_, _, rfl, LS1.later z.below, LS2.later z.below⟩)
    rw [hcb] at h
    exact h)
   have CC := hid (show ∀ z : Ext V49, Calls Try.prog 13 #[.agg #[.slice Mp ja20.length Mq, .slice Mr jb20.length Ms], .agg #[.slice Np ja20.length Nq, .slice Nr jb20.length Ns]] z.w (fun e w' => e = .returned (.bool true) ∧ ∃ x : Ext V49, w' = x.w) from fun z => by
    have h := Ext.atK (ksets_any z.w (.agg #[.slice Mp ja20.length Mq, .slice Mr jb20.length Ms]) (.agg #[.slice Np ja20.length Nq, .slice Nr jb20.length Ns]) ja20 jb20 ja20 jb20 ⟨_, _, rfl, LM1.later z.below, LM2.later z.below⟩ ⟨_, _, rfl, LN1.later z.below, LN2.later z.below⟩)
    rw [show (decide (ja20 = ja20) && decide (jb20 = jb20)) = true by simp] at h
    exact h)
   clear ec hcb
   try simp only [List.append]
   refine wp_region_quietL (C := Grows V49) hmx (by kernel_rfl) (grows_refl V49) ?_
   repeat (first | (with_reducible refine wpQuiet_load rfl 24 _ rfl _ rfl _ KP.out ?_; simp only [Act.put, sT, sS, sZ]) | (with_reducible refine wpQuiet_load rfl 24 _ rfl _ rfl _ KQ.out ?_; simp only [Act.put, sT, sS, sZ]) | (with_reducible refine wpQuiet_load rfl 24 _ rfl _ rfl _ KM.out ?_; simp only [Act.put, sT, sS, sZ]) | (with_reducible refine wpQuiet_load rfl 24 _ rfl _ rfl _ KN.out ?_; simp only [Act.put, sT, sS, sZ]) | (go_big_quiet_step (first | (with_reducible exact CA.out _) | (with_reducible exact CB.out _) | (with_reducible exact CC.out _))))
   refine wpQuiet_nil ?_
   rintro _ ⟨zwc20, rfl⟩
   have qa := zwc20.below
   replace LA1 := LA1.later qa
   replace LA2 := LA2.later qa
   replace LX := LX.later qa
   replace LY := LY.later qa
   replace LS1 := LS1.later qa
   replace LS2 := LS2.later qa
   replace LS := LS.later qa
   replace LT := LT.later qa
   replace LU1 := LU1.later qa
   replace LU2 := LU2.later qa
   replace LU := LU.later qa
   replace LL := LL.later qa
   replace LV := LV.later qa
   replace LQ := LQ.later qa
   replace Lp := Lp.later qa
   replace LR := LR.later qa
   replace Lq := Lq.later qa
   replace LM1 := LM1.later qa
   replace LM2 := LM2.later qa
   replace LM := LM.later qa
   replace LN1 := LN1.later qa
   replace LN2 := LN2.later qa
   replace LN := LN.later qa
   replace Q := Q.trans (qa.mono Q.size)
   clear qa
   generalize zwc20.w = wc20 at *
   clear KP KQ KM KN CA CB CC
   clear Lq LM LN LM1 LM2 LN1 LN2
   go_wp2
   rw [rounds_succ]
   obtain ⟨ja21, hja⟩ : ∃ l, (joinM (lk) (setN z2) (ta) (tb)).1 = l := ⟨_, rfl⟩
   obtain ⟨jb21, hjb⟩ : ∃ l, (joinM (lk) (setN z2) (ta) (tb)).2.1 = l := ⟨_, rfl⟩
   obtain ⟨jc21, hjc⟩ : ∃ l, (joinM (lk) (setN z2) (ta) (tb)).2.2 = l := ⟨_, rfl⟩
   have MK := hid (fun (Y : World) (i1 : SetsAt Y (.agg #[.slice lv ln lc, .slice b2 p2 d2]) (lk) (setN z2)) (i2 : SetsAt Y (.agg #[.slice (uptoK a1 c1) m1 c1, .slice (uptoK a2 c2) m2 c2]) (ta) (tb)) => (show Calls Try.prog 18 #[.agg #[.slice lv ln lc, .slice b2 p2 d2], .agg #[.slice (uptoK a1 c1) m1 c1, .slice (uptoK a2 c2) m2 c2]] Y (SetsP Y ja21 jb21 jc21) from by
    have h := kjoin_any Y _ _ _ _ _ _ i1 i2
    rw [hja, hjb, hjc] at h
    exact h).mono fun e w' h => h.ex)
   have RK := hid (fun (Y : World) (i1 : SetsAt Y (.agg #[.slice lv ln lc, .slice b2 p2 d2]) (lk) (setN z2)) (i2 : SetsAt Y (.agg #[.slice (uptoK a1 c1) m1 c1, .slice (uptoK a2 c2) m2 c2]) (ta) (tb)) => (show Calls Try.prog 19 #[.agg #[.slice lv ln lc, .slice b2 p2 d2], .agg #[.slice (uptoK a1 c1) m1 c1, .slice (uptoK a2 c2) m2 c2]] Y (SetsP Y ja21 jb21 jc21) from by
    have h := rjoin_any Y _ _ _ _ _ _ i1 i2
    rw [hja, hjb, hjc] at h
    exact h).mono fun e w' h => h.ex)
   clear hja hjb hjc
   have k361 := LR.cell 0 _ rfl
   have k362 := LR.cell 1 _ rfl
   have k363 := LR.cell 2 _ rfl
   have k364 := LR.cell 3 _ rfl
   have k365 := LR.cell 4 _ rfl
   have k366 := LR.cell 5 _ rfl
   have k367 := Lp.cell 0 _ rfl
   have k368 := Lp.cell 1 _ rfl
   have qa := newA wc20 (.cells #[.slice (uptoK a1 c1) m1 c1, .slice (uptoK a2 c2) m2 c2] 24)
   have Lq := Has.new wc20 24 #[.slice (uptoK a1 c1) m1 c1, .slice (uptoK a2 c2) m2 c2]
   obtain ⟨V50, hV50⟩ : ∃ V50, wc20.alloc (.cells #[.slice (uptoK a1 c1) m1 c1, .slice (uptoK a2 c2) m2 c2] 24) = V50 := ⟨_, rfl⟩
   rw [hV50] at qa Lq
   replace LA1 := LA1.later qa
   replace LA2 := LA2.later qa
   replace LX := LX.later qa
   replace LY := LY.later qa
   replace LS1 := LS1.later qa
   replace LS2 := LS2.later qa
   replace LS := LS.later qa
   replace LT := LT.later qa
   replace LU1 := LU1.later qa
   replace LU2 := LU2.later qa
   replace LU := LU.later qa
   replace LL := LL.later qa
   replace LV := LV.later qa
   replace LQ := LQ.later qa
   replace Lp := Lp.later qa
   replace LR := LR.later qa
   replace Q := Q.trans (qa.mono Q.size)
   clear qa
   have k369 := LR.cell 0 _ rfl
   have k370 := LR.cell 1 _ rfl
   have k371 := LR.cell 2 _ rfl
   have k372 := LR.cell 3 _ rfl
   have k373 := LR.cell 4 _ rfl
   have k374 := LR.cell 5 _ rfl
   have k375 := Lp.cell 0 _ rfl
   have k376 := Lp.cell 1 _ rfl
   have k377 := Lq.cell 0 _ rfl
   have k378 := Lq.cell 1 _ rfl
   go_wp2_with fail
   generalize wc20.heap.size = gq21 at *
   clear hV50 k369 k370 k371 k372 k373 k374 k375 k376 k377 k378 k361 k362 k363 k364 k365 k366 k367 k368
   refine (MK.out V50 ⟨_, _, rfl, LL, LS2⟩ ⟨_, _, rfl, LA1, LA2⟩).mono ?_
   rintro _ mj21 ⟨Mx, My, rfl, LM1, LM2, q1⟩
   replace LA1 := LA1.later q1
   replace LA2 := LA2.later q1
   replace LX := LX.later q1
   replace LY := LY.later q1
   replace LS1 := LS1.later q1
   replace LS2 := LS2.later q1
   replace LS := LS.later q1
   replace LT := LT.later q1
   replace LU1 := LU1.later q1
   replace LU2 := LU2.later q1
   replace LU := LU.later q1
   replace LL := LL.later q1
   replace LV := LV.later q1
   replace LQ := LQ.later q1
   replace Lp := Lp.later q1
   replace LR := LR.later q1
   replace Lq := Lq.later q1
   replace Q := Q.trans (q1.mono Q.size)
   clear q1 MK
   obtain ⟨Mp, Mq, rfl, _, _⟩ := LM1.shape
   obtain ⟨Mr, Ms, rfl, _, _⟩ := LM2.shape
   have k379 := Lp.cell 0 _ rfl
   have k380 := Lp.cell 1 _ rfl
   have k381 := Lq.cell 0 _ rfl
   have k382 := Lq.cell 1 _ rfl
   have qa := newA mj21 (.cells #[.slice Mp ja21.length Mq, .slice Mr jb21.length Ms] 24)
   have LM := Has.new mj21 24 #[.slice Mp ja21.length Mq, .slice Mr jb21.length Ms]
   obtain ⟨V51, hV51⟩ : ∃ V51, mj21.alloc (.cells #[.slice Mp ja21.length Mq, .slice Mr jb21.length Ms] 24) = V51 := ⟨_, rfl⟩
   rw [hV51] at qa LM
   replace LA1 := LA1.later qa
   replace LA2 := LA2.later qa
   replace LX := LX.later qa
   replace LY := LY.later qa
   replace LS1 := LS1.later qa
   replace LS2 := LS2.later qa
   replace LS := LS.later qa
   replace LT := LT.later qa
   replace LU1 := LU1.later qa
   replace LU2 := LU2.later qa
   replace LU := LU.later qa
   replace LL := LL.later qa
   replace LV := LV.later qa
   replace LQ := LQ.later qa
   replace Lp := Lp.later qa
   replace LR := LR.later qa
   replace Lq := Lq.later qa
   replace LM1 := LM1.later qa
   replace LM2 := LM2.later qa
   replace Q := Q.trans (qa.mono Q.size)
   clear qa
   have k383 := Lp.cell 0 _ rfl
   have k384 := Lp.cell 1 _ rfl
   have k385 := Lq.cell 0 _ rfl
   have k386 := Lq.cell 1 _ rfl
   go_wp2_with fail
   generalize mj21.heap.size = gM21 at *
   clear hV51 k383 k384 k385 k386 k379 k380 k381 k382
   refine (RK.out V51 ⟨_, _, rfl, LL, LS2⟩ ⟨_, _, rfl, LA1, LA2⟩).mono ?_
   rintro _ nj21 ⟨Nx, Ny, rfl, LN1, LN2, q1⟩
   replace LA1 := LA1.later q1
   replace LA2 := LA2.later q1
   replace LX := LX.later q1
   replace LY := LY.later q1
   replace LS1 := LS1.later q1
   replace LS2 := LS2.later q1
   replace LS := LS.later q1
   replace LT := LT.later q1
   replace LU1 := LU1.later q1
   replace LU2 := LU2.later q1
   replace LU := LU.later q1
   replace LL := LL.later q1
   replace LV := LV.later q1
   replace LQ := LQ.later q1
   replace Lp := Lp.later q1
   replace LR := LR.later q1
   replace Lq := Lq.later q1
   replace LM1 := LM1.later q1
   replace LM2 := LM2.later q1
   replace LM := LM.later q1
   replace Q := Q.trans (q1.mono Q.size)
   clear q1 RK
   obtain ⟨Np, Nq, rfl, _, _⟩ := LN1.shape
   obtain ⟨Nr, Ns, rfl, _, _⟩ := LN2.shape
   have qa := newA nj21 (.cells #[.slice Np ja21.length Nq, .slice Nr jb21.length Ns] 24)
   have LN := Has.new nj21 24 #[.slice Np ja21.length Nq, .slice Nr jb21.length Ns]
   obtain ⟨V52, hV52⟩ : ∃ V52, nj21.alloc (.cells #[.slice Np ja21.length Nq, .slice Nr jb21.length Ns] 24) = V52 := ⟨_, rfl⟩
   rw [hV52] at qa LN
   replace LA1 := LA1.later qa
   replace LA2 := LA2.later qa
   replace LX := LX.later qa
   replace LY := LY.later qa
   replace LS1 := LS1.later qa
   replace LS2 := LS2.later qa
   replace LS := LS.later qa
   replace LT := LT.later qa
   replace LU1 := LU1.later qa
   replace LU2 := LU2.later qa
   replace LU := LU.later qa
   replace LL := LL.later qa
   replace LV := LV.later qa
   replace LQ := LQ.later qa
   replace Lp := Lp.later qa
   replace LR := LR.later qa
   replace Lq := Lq.later qa
   replace LM1 := LM1.later qa
   replace LM2 := LM2.later qa
   replace LM := LM.later qa
   replace LN1 := LN1.later qa
   replace LN2 := LN2.later qa
   replace Q := Q.trans (qa.mono Q.size)
   clear qa
   go_wp2_with fail
   generalize nj21.heap.size = gN21 at *
   clear hV52  
   have KP := hid (sets_load Lp)
   have KQ := hid (sets_load Lq)
   have KM := hid (sets_load LM)
   have KN := hid (sets_load LN)
   have ec := clash_one (lk) (setN z2) (ta) (tb)
   obtain ⟨cb21, hcb⟩ : ∃ b, (oneB (setN z2) (ta) (tb) || oneB (tb) (lk) (setN z2)) = b := ⟨_, rfl⟩
   have CA := hid (show ∀ z : Ext V52, Calls Try.prog 20 #[.agg #[.slice lv ln lc, .slice b2 p2 d2], .agg #[.slice (uptoK a1 c1) m1 c1, .slice (uptoK a2 c2) m2 c2]] z.w (fun e w' => e = .returned (.bool cb21) ∧ ∃ x : Ext V52, w' = x.w) from fun z => by
    have h := Ext.atK (kclash_any z.w (.agg #[.slice lv ln lc, .slice b2 p2 d2]) (.agg #[.slice (uptoK a1 c1) m1 c1, .slice (uptoK a2 c2) m2 c2]) (lk) (setN z2) (ta) (tb) ⟨_, _, rfl, LL.later z.below, LS2.later z.below⟩ ⟨_, _, rfl, LA1.later z.below, LA2.later z.below⟩ HLEN.out.2.2.2 HLEN.out.1.2 HLEN.out.2.1.2 HLEN.out.2.2.1)
    rw [ec, hcb] at h
    exact h)
   have CB := hid (show ∀ z : Ext V52, Calls Try.prog 21 #[.agg #[.slice lv ln lc, .slice b2 p2 d2], .agg #[.slice (uptoK a1 c1) m1 c1, .slice (uptoK a2 c2) m2 c2]] z.w (fun e w' => e = .returned (.bool cb21) ∧ ∃ x : Ext V52, w' = x.w) from fun z => by
    have h := Ext.atK (rclash_any z.w (.agg #[.slice lv ln lc, .slice b2 p2 d2]) (.agg #[.slice (uptoK a1 c1) m1 c1, .slice (uptoK a2 c2) m2 c2]) (lk) (setN z2) (ta) (tb) ⟨_, _, rfl, LL.later z.below, LS2.later z.below⟩ ⟨_, _, rfl, LA1.later z.below, LA2.later z.below⟩)
    rw [hcb] at h
    exact h)
   have CC := hid (show ∀ z : Ext V52, Calls Try.prog 13 #[.agg #[.slice Mp ja21.length Mq, .slice Mr jb21.length Ms], .agg #[.slice Np ja21.length Nq, .slice Nr jb21.length Ns]] z.w (fun e w' => e = .returned (.bool true) ∧ ∃ x : Ext V52, w' = x.w) from fun z => by
    have h := Ext.atK (ksets_any z.w (.agg #[.slice Mp ja21.length Mq, .slice Mr jb21.length Ms]) (.agg #[.slice Np ja21.length Nq, .slice Nr jb21.length Ns]) ja21 jb21 ja21 jb21 ⟨_, _, rfl, LM1.later z.below, LM2.later z.below⟩ ⟨_, _, rfl, LN1.later z.below, LN2.later z.below⟩)
    rw [show (decide (ja21 = ja21) && decide (jb21 = jb21)) = true by simp] at h
    exact h)
   clear ec hcb
   try simp only [List.append]
   refine wp_region_quietL (C := Grows V52) hmx (by kernel_rfl) (grows_refl V52) ?_
   repeat (first | (with_reducible refine wpQuiet_load rfl 24 _ rfl _ rfl _ KP.out ?_; simp only [Act.put, sT, sS, sZ]) | (with_reducible refine wpQuiet_load rfl 24 _ rfl _ rfl _ KQ.out ?_; simp only [Act.put, sT, sS, sZ]) | (with_reducible refine wpQuiet_load rfl 24 _ rfl _ rfl _ KM.out ?_; simp only [Act.put, sT, sS, sZ]) | (with_reducible refine wpQuiet_load rfl 24 _ rfl _ rfl _ KN.out ?_; simp only [Act.put, sT, sS, sZ]) | (go_big_quiet_step (first | (with_reducible exact CA.out _) | (with_reducible exact CB.out _) | (with_reducible exact CC.out _))))
   refine wpQuiet_nil ?_
   rintro _ ⟨zwc21, rfl⟩
   have qa := zwc21.below
   replace LA1 := LA1.later qa
   replace LA2 := LA2.later qa
   replace LX := LX.later qa
   replace LY := LY.later qa
   replace LS1 := LS1.later qa
   replace LS2 := LS2.later qa
   replace LS := LS.later qa
   replace LT := LT.later qa
   replace LU1 := LU1.later qa
   replace LU2 := LU2.later qa
   replace LU := LU.later qa
   replace LL := LL.later qa
   replace LV := LV.later qa
   replace LQ := LQ.later qa
   replace Lp := Lp.later qa
   replace LR := LR.later qa
   replace Lq := Lq.later qa
   replace LM1 := LM1.later qa
   replace LM2 := LM2.later qa
   replace LM := LM.later qa
   replace LN1 := LN1.later qa
   replace LN2 := LN2.later qa
   replace LN := LN.later qa
   replace Q := Q.trans (qa.mono Q.size)
   clear qa
   generalize zwc21.w = wc21 at *
   clear KP KQ KM KN CA CB CC
   clear Lq LM LN LM1 LM2 LN1 LN2
   go_wp2
   rw [rounds_succ]
   obtain ⟨ja22, hja⟩ : ∃ l, (joinM (lk) (setN z2) (setN z2) (setN [])).1 = l := ⟨_, rfl⟩
   obtain ⟨jb22, hjb⟩ : ∃ l, (joinM (lk) (setN z2) (setN z2) (setN [])).2.1 = l := ⟨_, rfl⟩
   obtain ⟨jc22, hjc⟩ : ∃ l, (joinM (lk) (setN z2) (setN z2) (setN [])).2.2 = l := ⟨_, rfl⟩
   have MK := hid (fun (Y : World) (i1 : SetsAt Y (.agg #[.slice lv ln lc, .slice b2 p2 d2]) (lk) (setN z2)) (i2 : SetsAt Y (.agg #[.slice b3 p3 d3, .slice b4 p4 d4]) (setN z2) (setN [])) => (show Calls Try.prog 18 #[.agg #[.slice lv ln lc, .slice b2 p2 d2], .agg #[.slice b3 p3 d3, .slice b4 p4 d4]] Y (SetsP Y ja22 jb22 jc22) from by
    have h := kjoin_any Y _ _ _ _ _ _ i1 i2
    rw [hja, hjb, hjc] at h
    exact h).mono fun e w' h => h.ex)
   have RK := hid (fun (Y : World) (i1 : SetsAt Y (.agg #[.slice lv ln lc, .slice b2 p2 d2]) (lk) (setN z2)) (i2 : SetsAt Y (.agg #[.slice b3 p3 d3, .slice b4 p4 d4]) (setN z2) (setN [])) => (show Calls Try.prog 19 #[.agg #[.slice lv ln lc, .slice b2 p2 d2], .agg #[.slice b3 p3 d3, .slice b4 p4 d4]] Y (SetsP Y ja22 jb22 jc22) from by
    have h := rjoin_any Y _ _ _ _ _ _ i1 i2
    rw [hja, hjb, hjc] at h
    exact h).mono fun e w' h => h.ex)
   clear hja hjb hjc
   have k387 := LR.cell 0 _ rfl
   have k388 := LR.cell 1 _ rfl
   have k389 := LR.cell 2 _ rfl
   have k390 := LR.cell 3 _ rfl
   have k391 := LR.cell 4 _ rfl
   have k392 := LR.cell 5 _ rfl
   have k393 := Lp.cell 0 _ rfl
   have k394 := Lp.cell 1 _ rfl
   have qa := newA wc21 (.cells #[.slice b3 p3 d3, .slice b4 p4 d4] 24)
   have Lq := Has.new wc21 24 #[.slice b3 p3 d3, .slice b4 p4 d4]
   obtain ⟨V53, hV53⟩ : ∃ V53, wc21.alloc (.cells #[.slice b3 p3 d3, .slice b4 p4 d4] 24) = V53 := ⟨_, rfl⟩
   rw [hV53] at qa Lq
   replace LA1 := LA1.later qa
   replace LA2 := LA2.later qa
   replace LX := LX.later qa
   replace LY := LY.later qa
   replace LS1 := LS1.later qa
   replace LS2 := LS2.later qa
   replace LS := LS.later qa
   replace LT := LT.later qa
   replace LU1 := LU1.later qa
   replace LU2 := LU2.later qa
   replace LU := LU.later qa
   replace LL := LL.later qa
   replace LV := LV.later qa
   replace LQ := LQ.later qa
   replace Lp := Lp.later qa
   replace LR := LR.later qa
   replace Q := Q.trans (qa.mono Q.size)
   clear qa
   have k395 := LR.cell 0 _ rfl
   have k396 := LR.cell 1 _ rfl
   have k397 := LR.cell 2 _ rfl
   have k398 := LR.cell 3 _ rfl
   have k399 := LR.cell 4 _ rfl
   have k400 := LR.cell 5 _ rfl
   have k401 := Lp.cell 0 _ rfl
   have k402 := Lp.cell 1 _ rfl
   have k403 := Lq.cell 0 _ rfl
   have k404 := Lq.cell 1 _ rfl
   go_wp2_with fail
   generalize wc21.heap.size = gq22 at *
   clear hV53 k395 k396 k397 k398 k399 k400 k401 k402 k403 k404 k387 k388 k389 k390 k391 k392 k393 k394
   refine (MK.out V53 ⟨_, _, rfl, LL, LS2⟩ ⟨_, _, rfl, LU1, LU2⟩).mono ?_
   rintro _ mj22 ⟨Mx, My, rfl, LM1, LM2, q1⟩
   replace LA1 := LA1.later q1
   replace LA2 := LA2.later q1
   replace LX := LX.later q1
   replace LY := LY.later q1
   replace LS1 := LS1.later q1
   replace LS2 := LS2.later q1
   replace LS := LS.later q1
   replace LT := LT.later q1
   replace LU1 := LU1.later q1
   replace LU2 := LU2.later q1
   replace LU := LU.later q1
   replace LL := LL.later q1
   replace LV := LV.later q1
   replace LQ := LQ.later q1
   replace Lp := Lp.later q1
   replace LR := LR.later q1
   replace Lq := Lq.later q1
   replace Q := Q.trans (q1.mono Q.size)
   clear q1 MK
   obtain ⟨Mp, Mq, rfl, _, _⟩ := LM1.shape
   obtain ⟨Mr, Ms, rfl, _, _⟩ := LM2.shape
   have k405 := Lp.cell 0 _ rfl
   have k406 := Lp.cell 1 _ rfl
   have k407 := Lq.cell 0 _ rfl
   have k408 := Lq.cell 1 _ rfl
   have qa := newA mj22 (.cells #[.slice Mp ja22.length Mq, .slice Mr jb22.length Ms] 24)
   have LM := Has.new mj22 24 #[.slice Mp ja22.length Mq, .slice Mr jb22.length Ms]
   obtain ⟨V54, hV54⟩ : ∃ V54, mj22.alloc (.cells #[.slice Mp ja22.length Mq, .slice Mr jb22.length Ms] 24) = V54 := ⟨_, rfl⟩
   rw [hV54] at qa LM
   replace LA1 := LA1.later qa
   replace LA2 := LA2.later qa
   replace LX := LX.later qa
   replace LY := LY.later qa
   replace LS1 := LS1.later qa
   replace LS2 := LS2.later qa
   replace LS := LS.later qa
   replace LT := LT.later qa
   replace LU1 := LU1.later qa
   replace LU2 := LU2.later qa
   replace LU := LU.later qa
   replace LL := LL.later qa
   replace LV := LV.later qa
   replace LQ := LQ.later qa
   replace Lp := Lp.later qa
   replace LR := LR.later qa
   replace Lq := Lq.later qa
   replace LM1 := LM1.later qa
   replace LM2 := LM2.later qa
   replace Q := Q.trans (qa.mono Q.size)
   clear qa
   have k409 := Lp.cell 0 _ rfl
   have k410 := Lp.cell 1 _ rfl
   have k411 := Lq.cell 0 _ rfl
   have k412 := Lq.cell 1 _ rfl
   go_wp2_with fail
   generalize mj22.heap.size = gM22 at *
   clear hV54 k409 k410 k411 k412 k405 k406 k407 k408
   refine (RK.out V54 ⟨_, _, rfl, LL, LS2⟩ ⟨_, _, rfl, LU1, LU2⟩).mono ?_
   rintro _ nj22 ⟨Nx, Ny, rfl, LN1, LN2, q1⟩
   replace LA1 := LA1.later q1
   replace LA2 := LA2.later q1
   replace LX := LX.later q1
   replace LY := LY.later q1
   replace LS1 := LS1.later q1
   replace LS2 := LS2.later q1
   replace LS := LS.later q1
   replace LT := LT.later q1
   replace LU1 := LU1.later q1
   replace LU2 := LU2.later q1
   replace LU := LU.later q1
   replace LL := LL.later q1
   replace LV := LV.later q1
   replace LQ := LQ.later q1
   replace Lp := Lp.later q1
   replace LR := LR.later q1
   replace Lq := Lq.later q1
   replace LM1 := LM1.later q1
   replace LM2 := LM2.later q1
   replace LM := LM.later q1
   replace Q := Q.trans (q1.mono Q.size)
   clear q1 RK
   obtain ⟨Np, Nq, rfl, _, _⟩ := LN1.shape
   obtain ⟨Nr, Ns, rfl, _, _⟩ := LN2.shape
   have qa := newA nj22 (.cells #[.slice Np ja22.length Nq, .slice Nr jb22.length Ns] 24)
   have LN := Has.new nj22 24 #[.slice Np ja22.length Nq, .slice Nr jb22.length Ns]
   obtain ⟨V55, hV55⟩ : ∃ V55, nj22.alloc (.cells #[.slice Np ja22.length Nq, .slice Nr jb22.length Ns] 24) = V55 := ⟨_, rfl⟩
   rw [hV55] at qa LN
   replace LA1 := LA1.later qa
   replace LA2 := LA2.later qa
   replace LX := LX.later qa
   replace LY := LY.later qa
   replace LS1 := LS1.later qa
   replace LS2 := LS2.later qa
   replace LS := LS.later qa
   replace LT := LT.later qa
   replace LU1 := LU1.later qa
   replace LU2 := LU2.later qa
   replace LU := LU.later qa
   replace LL := LL.later qa
   replace LV := LV.later qa
   replace LQ := LQ.later qa
   replace Lp := Lp.later qa
   replace LR := LR.later qa
   replace Lq := Lq.later qa
   replace LM1 := LM1.later qa
   replace LM2 := LM2.later qa
   replace LM := LM.later qa
   replace LN1 := LN1.later qa
   replace LN2 := LN2.later qa
   replace Q := Q.trans (qa.mono Q.size)
   clear qa
   go_wp2_with fail
   generalize nj22.heap.size = gN22 at *
   clear hV55  
   have KP := hid (sets_load Lp)
   have KQ := hid (sets_load Lq)
   have KM := hid (sets_load LM)
   have KN := hid (sets_load LN)
   have ec := clash_one (lk) (setN z2) (setN z2) (setN [])
   obtain ⟨cb22, hcb⟩ : ∃ b, (oneB (setN z2) (setN z2) (setN []) || oneB (setN []) (lk) (setN z2)) = b := ⟨_, rfl⟩
   have CA := hid (show ∀ z : Ext V55, Calls Try.prog 20 #[.agg #[.slice lv ln lc, .slice b2 p2 d2], .agg #[.slice b3 p3 d3, .slice b4 p4 d4]] z.w (fun e w' => e = .returned (.bool cb22) ∧ ∃ x : Ext V55, w' = x.w) from fun z => by
    have h := Ext.atK (kclash_any z.w (.agg #[.slice lv ln lc, .slice b2 p2 d2]) (.agg #[.slice b3 p3 d3, .slice b4 p4 d4]) (lk) (setN z2) (setN z2) (setN []) ⟨_, _, rfl, LL.later z.below, LS2.later z.below⟩ ⟨_, _, rfl, LU1.later z.below, LU2.later z.below⟩ HLEN.out.2.2.2 HLEN.out.1.2 HLEN.out.1.2 HLEN.out.2.1.1)
    rw [ec, hcb] at h
    exact h)
   have CB := hid (show ∀ z : Ext V55, Calls Try.prog 21 #[.agg #[.slice lv ln lc, .slice b2 p2 d2], .agg #[.slice b3 p3 d3, .slice b4 p4 d4]] z.w (fun e w' => e = .returned (.bool cb22) ∧ ∃ x : Ext V55, w' = x.w) from fun z => by
    have h := Ext.atK (rclash_any z.w (.agg #[.slice lv ln lc, .slice b2 p2 d2]) (.agg #[.slice b3 p3 d3, .slice b4 p4 d4]) (lk) (setN z2) (setN z2) (setN []) ⟨_, _, rfl, LL.later z.below, LS2.later z.below⟩ ⟨_, _, rfl, LU1.later z.below, LU2.later z.below⟩)
    rw [hcb] at h
    exact h)
   have CC := hid (show ∀ z : Ext V55, Calls Try.prog 13 #[.agg #[.slice Mp ja22.length Mq, .slice Mr jb22.length Ms], .agg #[.slice Np ja22.length Nq, .slice Nr jb22.length Ns]] z.w (fun e w' => e = .returned (.bool true) ∧ ∃ x : Ext V55, w' = x.w) from fun z => by
    have h := Ext.atK (ksets_any z.w (.agg #[.slice Mp ja22.length Mq, .slice Mr jb22.length Ms]) (.agg #[.slice Np ja22.length Nq, .slice Nr jb22.length Ns]) ja22 jb22 ja22 jb22 ⟨_, _, rfl, LM1.later z.below, LM2.later z.below⟩ ⟨_, _, rfl, LN1.later z.below, LN2.later z.below⟩)
    rw [show (decide (ja22 = ja22) && decide (jb22 = jb22)) = true by simp] at h
    exact h)
   clear ec hcb
   try simp only [List.append]
   refine wp_region_quietL (C := Grows V55) hmx (by kernel_rfl) (grows_refl V55) ?_
   repeat (first | (with_reducible refine wpQuiet_load rfl 24 _ rfl _ rfl _ KP.out ?_; simp only [Act.put, sT, sS, sZ]) | (with_reducible refine wpQuiet_load rfl 24 _ rfl _ rfl _ KQ.out ?_; simp only [Act.put, sT, sS, sZ]) | (with_reducible refine wpQuiet_load rfl 24 _ rfl _ rfl _ KM.out ?_; simp only [Act.put, sT, sS, sZ]) | (with_reducible refine wpQuiet_load rfl 24 _ rfl _ rfl _ KN.out ?_; simp only [Act.put, sT, sS, sZ]) | (go_big_quiet_step (first | (with_reducible exact CA.out _) | (with_reducible exact CB.out _) | (with_reducible exact CC.out _))))
   refine wpQuiet_nil ?_
   rintro _ ⟨zwc22, rfl⟩
   have qa := zwc22.below
   replace LA1 := LA1.later qa
   replace LA2 := LA2.later qa
   replace LX := LX.later qa
   replace LY := LY.later qa
   replace LS1 := LS1.later qa
   replace LS2 := LS2.later qa
   replace LS := LS.later qa
   replace LT := LT.later qa
   replace LU1 := LU1.later qa
   replace LU2 := LU2.later qa
   replace LU := LU.later qa
   replace LL := LL.later qa
   replace LV := LV.later qa
   replace LQ := LQ.later qa
   replace Lp := Lp.later qa
   replace LR := LR.later qa
   replace Lq := Lq.later qa
   replace LM1 := LM1.later qa
   replace LM2 := LM2.later qa
   replace LM := LM.later qa
   replace LN1 := LN1.later qa
   replace LN2 := LN2.later qa
   replace LN := LN.later qa
   replace Q := Q.trans (qa.mono Q.size)
   clear qa
   generalize zwc22.w = wc22 at *
   clear KP KQ KM KN CA CB CC
   clear Lq LM LN LM1 LM2 LN1 LN2
   go_wp2
   rw [rounds_succ]
   clear LR Lp
   go_wp2
   rw [rounds_succ]
   go_wp2
   go_ret
   exact ⟨rfl, Q⟩
end Go.Proofs.Ytahjgllnfbejmaa
