/- OpcodeJumps, walked, and what it uses of the model. Conditions: none. -/
import Derived.Test.YthcmfadofogfaaaDoorG13
import Derived.Deep.Upon
namespace Go.Proofs.YthcmfadofogfaaaDoor
section
open Go Go.RowKit Go.Maps
attribute [local go_sem] Oper.semAt_some Grows wide_fn

theorem NumsAt.cellE {X : World} {b : Addr} {n cap : Nat} {zs : List Int} (h : NumsAt X (.slice (some b) n cap) zs) {i : Nat} {p : Int} (hp : zs[i]? = some p) : X.cell? (b.add i) = some (.int .i64 p) := by
  obtain ⟨_, b', e, hc⟩ := h.at hp
  injection e with e
  subst e
  exact hc
set_option maxRecDepth 100000 in
set_option maxHeartbeats 8000000 in
theorem same_ints (W : World) (sa sb : Value) (zs : List Int) (ha : NumsAt W sa zs) (hb : NumsAt W sb zs) :
    Calls Tryd.prog 14 #[sa, sb] W fun e w' => e = .returned (.bool true) ∧ Below W.heap.size W w' := by
  have hmx : Tryd.prog.follows .mixedOrders = true := by kernel_rfl
  obtain ⟨a, ca, rfl, ha1, ha2⟩ := ha.shape
  obtain ⟨b, cb, rfl, hb1, hb2⟩ := hb.shape
  have HA := Lib.hid ha
  have HB := Lib.hid hb
  obtain ⟨m, hm⟩ : ∃ m, zs.length = m := ⟨_, rfl⟩
  rw [hm] at HA HB ha1 ⊢
  have HM := Lib.hid hm
  have hlc := Lib.hid (Nat.le_trans ha1 ha2)
  clear ha hb hm ha1 ha2 hb1 hb2
  go_enter Tryd.func14, Tryd.ntmps14
  go_wp2_with fail
  go_loopw [5] (fun i wr => ∃ k : Nat, k ≤ m ∧ i = .int .i64 (k : Int) ∧ Below W.heap.size W wr) (fun i _ => m - (intOf i).toNat)
  case atStart => exact ⟨0, by omega, rfl, Below.refl _ _⟩
  case round =>
    obtain ⟨k, hk, rfl, hq⟩ := hrel
    have HQ := Lib.hid hq
    clear hq
    by_cases hkn : k < m
    · have hknI : (k : Int) < (m : Int) := by omega
      have hk0 : (0 : Int) ≤ (k : Int) := by omega
      have hkb : (k : Int) ≤ 9223372036854775806 := by have := hlc.out; omega
      obtain ⟨x, hx⟩ : ∃ x, zs[k]? = some x := ⟨_, List.getElem?_eq_getElem (by have := HM.out; omega)⟩
      obtain ⟨_, ba, rfl, _⟩ := HA.out.at hx
      obtain ⟨_, bb, rfl, _⟩ := HB.out.at hx
      have c0 := fun z : Ext wr => (HA.out.later (HQ.out.trans (z.below.mono HQ.out.size))).cellE hx
      have d0 := fun z : Ext wr => (HB.out.later (HQ.out.trans (z.below.mono HQ.out.size))).cellE hx
      have HK := Lib.hid hkn
      clear hkn hx hk
      go_wp2_with fail
      refine wp_region_quietL (C := Grows wr) hmx (by kernel_rfl) (grows_refl wr) ?_
      repeat (go_big_quiet_step (fail))
      refine wpQuiet_nil ?_
      rintro _ ⟨z, rfl⟩
      have HE := Lib.hid (HQ.out.trans (z.below.mono HQ.out.size))
      clear c0 d0
      go_wp2_with fail
      go_roundw
      case rel => exact ⟨k + 1, by have := HK.out; omega, by simp, HE.out⟩
      case measure => have := HK.out; simp [intOf]; omega
    · obtain rfl : k = m := by omega
      have hkk : ¬ (k : Int) < (k : Int) := by omega
      clear hkn hk
      go_wp2_with fail
      go_ret
      exact ⟨rfl, HQ.out⟩
theorem jumps_app {a : List UInt8} (h : CodeP a) (b : List UInt8) : jumpsL (a ++ b) = jumpsL a ++ (jumpsL b).map (a.length + ·) := by
  have hl := land_code h a.length (Nat.le_refl _)
  unfold jumpsL
  rw [show placesL (a ++ b) = placesF (a ++ b) (a ++ b).length 0 from rfl, places_app a b a.length _ 0 hl (by rw [List.length_append]; omega), List.filter_append, List.filter_map]
  congr 1
  · exact List.filter_congr fun p hp => by rw [byteAt_app a b (places_mem a _ _ p hp)]
  · congr 1
    exact List.filter_congr fun q _ => by show (byteAt (a ++ b) (a.length + q) == 91) = _; rw [byteAt_shift]
theorem places_ge (c : List UInt8) : ∀ (f p : Nat), ∀ q ∈ placesF c f p, p ≤ q
  | 0, _, q, h => by cases h
  | f + 1, p, q, h => by
    unfold placesF at h
    split at h
    · rcases List.mem_cons.1 h with rfl | h
      · exact Nat.le_refl _
      · have := places_ge c f _ q h; have := nextP_gt c p; omega
    · cases h
theorem places_up (c : List UInt8) : ∀ (f p : Nat), (placesF c f p).Pairwise (· < ·)
  | 0, _ => List.Pairwise.nil
  | f + 1, p => by
    unfold placesF
    split
    · refine List.Pairwise.cons (fun q hq => ?_) (places_up c f _)
      have := places_ge c f _ q hq; have := nextP_gt c p; omega
    · exact List.Pairwise.nil
theorem jumps_up (c : List UInt8) : (jumpsL c).Pairwise (· < ·) := (places_up c _ _).filter _
theorem jumps_mem (c : List UInt8) : ∀ q ∈ jumpsL c, q < c.length ∧ byteAt c q = 91 := fun q h => by
  unfold jumpsL at h
  obtain ⟨h1, h2⟩ := List.mem_filter.1 h
  exact ⟨places_mem c _ _ q h1, by simpa using h2⟩
/-- The places to jump to from one on. -/
def fromJ (c : List UInt8) (f p : Nat) : List Nat := (placesF c f p).filter (fun p => byteAt c p == 91)
theorem fromJ_ge (c : List UInt8) (f p : Nat) : ∀ q ∈ fromJ c f p, p ≤ q := fun q h => places_ge c f p q (List.mem_filter.1 h).1
theorem fromJ_step (c : List UInt8) (f p : Nat) (h : p < c.length) : fromJ c (f + 1) p = if byteAt c p = 91 then p :: fromJ c f (p + 1) else fromJ c f (p + 1 + pushN (byteAt c p)) := by
  unfold fromJ
  rw [placesF, if_pos h]
  by_cases e : byteAt c p = 91
  · have e2 : nextP c p = p + 1 := by unfold nextP; rw [e]; rfl
    rw [if_pos e, List.filter_cons, if_pos (by simp [e]), e2]
  · rw [if_neg e, List.filter_cons, if_neg (by simp [e])]; rfl
theorem fromJ_end (c : List UInt8) (f p : Nat) (h : c.length ≤ p) : fromJ c f p = [] := by
  unfold fromJ
  cases f with
  | zero => rfl
  | succ f => rw [placesF, if_neg (by omega)]; rfl
end
section
open Go Go.RowKit Go.Maps Go.Shelf
attribute [local go_sem] Oper.semAt_some Grows wide_fn

theorem byte_of {A : ByteArray} {a : List UInt8} (h : A.data.toList = a) {x : Nat} (hx : x < A.size) : (A[x].toNat : Int) = (byteAt a x : Int) := by
  unfold byteAt
  rw [List.getD_eq_getElem?_getD, ← h, List.getElem?_eq_getElem (by rw [Array.length_toList]; exact hx)]
  rfl
theorem intsL_at {l : List Nat} {k x : Nat} (h : l[k]? = some x) : (intsL l)[k]? = some (x : Int) := by unfold intsL; rw [List.getElem?_map, h]; rfl
theorem intsL_len (l : List Nat) : (intsL l).length = l.length := by unfold intsL; rw [List.length_map]
theorem row_push {W A : World} {v : Value} {l : List Nat} (p : Nat) (hb : W.heap.size ≤ A.heap.size) (h : JRow A W.heap.size v l) (hl : l.length ≤ 100000) :
    ∃ v' A', (Builtin.append_ #[32, 32] 32 #[v, .slice (some ⟨A.heap.size, 0, none⟩) 1 1]).run Tryd.prog (A.alloc (.cells #[.int .i64 (p : Int)] 3)) = .ok v' A' ∧ JRow A' W.heap.size v' (l ++ [p]) ∧ Below W.heap.size A A' := by
  obtain ⟨i0, hi, hz0, hz1, hz2⟩ := info_parts infoI8
  obtain ⟨v', w2, hr, hown, hgrow, _⟩ := run_append_own (P := Tryd.prog) (A.alloc (.cells #[.int .i64 (p : Int)] 3)) W.heap.size 32 32 3 i0 (.int .i64 0) 1 8 Tryd.underlying32 hi hz0 hz1 hz2 rfl (by decide) v l.length _ (h.laterJ ((Below.refl _ A).alloc (Nat.le_refl _) _)) ⟨A.heap.size, 0, none⟩ 1 1 [.int .i64 (p : Int)] rfl (cell_one_new _ _ _) (by simp [Value.oneCell']) (by unfold maxLen; omega) (by omega) (by simp; omega)
  refine ⟨v', w2, hr, ?_, ?_⟩
  · unfold JRow intsV at *
    rw [List.length_append, List.map_append]
    exact hown
  · exact ((Below.refl W.heap.size A).alloc hb (.cells #[.int .i64 (p : Int)] 3)).grown hgrow (by simp; omega) (fun k e => (h.lt k e).1)
theorem copy_ints {W : World} {a : Option Addr} {n m : Nat} {X : List Nat} (h : NumsAt W (.slice a n m) (intsL X)) (hX : X.length ≤ 100000) :
    ∃ v' W', (Builtin.append_ #[32, 32] 32 #[.slice none 0 0, .slice a n m]).run Tryd.prog W = .ok v' W' ∧ JRow W' W.heap.size v' X ∧ Below W.heap.size W W' := by
  obtain ⟨i0, hi, hz0, hz1, hz2⟩ := info_parts infoI8
  obtain ⟨_, _, e, hnm, _⟩ := h.shape
  injection e with _ en em
  rw [intsL_len] at en
  cases X with
  | nil =>
    have en : n = 0 := en
    subst en
    refine ⟨.slice none 0 0, W, ?_, World.ownsRow_nil _ _ _ _, Below.refl _ _⟩
    exact run_append_nothing (P := Tryd.prog) W 32 32 32 3 i0 Tryd.underlying32 hi none 0 0 (Nat.le_refl _) (.slice a 0 m) (by
      cases a with
      | none => exact Src.ofNil _ Tryd.underlying32 m
      | some b => exact Src.ofSlice _ Tryd.underlying32 b 0 m [] (by simp) (fun j u hj => by simp at hj) (fun u hu => by cases hu))
  | cons x X =>
    obtain ⟨_, b, e, _⟩ := h.at (i := 0) (p := (x : Int)) rfl
    subst e
    obtain ⟨v', w2, hr, hown, hgrow, _⟩ := run_append_own (P := Tryd.prog) W W.heap.size 32 32 3 i0 (.int .i64 0) 1 8 Tryd.underlying32 hi hz0 hz1 hz2 rfl (by decide) (.slice none 0 0) 0 [] (World.ownsRow_nil _ _ _ _) b n m (intsV (x :: X)) (by unfold intsV; rw [List.length_map, en]; omega) (fun j u hj => by
      unfold intsV at hj
      rw [List.getElem?_map] at hj
      obtain ⟨y, hy, rfl⟩ := Option.map_eq_some_iff.1 hj
      exact h.cellE (intsL_at hy)) (fun u hu => by unfold intsV at hu; obtain ⟨y, _, rfl⟩ := List.mem_map.1 hu; rfl) (by unfold maxLen; omega) (by rw [en]; omega) (Nat.le_refl _)
    refine ⟨v', w2, hr, ?_, (Below.refl _ W).grown hgrow (Nat.le_refl _) (fun k e => by simp [Value.ownBlock] at e)⟩
    unfold JRow
    rw [Nat.zero_add, en] at hown
    exact hown
set_option maxRecDepth 100000 in
set_option maxHeartbeats 32000000 in
theorem opcodeJumps_any (W : World) (v : Value) (zs : List (Int × Int)) (hr : RawAt W v zs) (u : Value) (ys : List (Int × Int)) (hu : RawAt W u ys) :
    Calls Tryd.prog 5 #[v, u] W fun e w' => e = .returned (.bool true) ∧ Below W.heap.size W w' := by
  have hmx : Tryd.prog.follows .mixedOrders = true := by kernel_rfl
  have HR := Lib.hid hr
  have HU := Lib.hid hu
  clear hr hu
  go_enter Tryd.func5, Tryd.ntmps5
  go_wp2_with fail
  refine (awake_any _).mono ?_
  rintro _ w1 ⟨rfl, q1⟩
  have HQ1 := Lib.hid q1
  clear q1
  go_wp2_with fail
  refine (code_any _ _ _ (HR.out.later HQ1.out)).mono ?_
  rintro _ w2 ⟨⟨a, rfl, hca, hla⟩, q2⟩
  have HQ2 := Lib.hid (HQ1.out.trans (q2.mono HQ1.out.size))
  have HCA := Lib.hid hca
  obtain ⟨A, hA⟩ : ∃ A : ByteArray, (⟨a.toArray⟩ : ByteArray) = A := ⟨_, rfl⟩
  have hAs : A.size ≤ 1320 := hA ▸ codeP_size hla
  have hAl : A.data.toList = a := by rw [← hA]
  rw [hA]
  have HA := Lib.hid (And.intro hAs (And.intro hAl (show a.length = A.size by rw [← hAl, Array.length_toList]; rfl)))
  clear q2 hca hla hA hAs hAl
  go_wp2_with fail
  refine (code_any _ _ _ (HU.out.later HQ2.out)).mono ?_
  rintro _ w3 ⟨⟨b, rfl, hcb, hlb⟩, q3⟩
  have HQ3 := Lib.hid (HQ2.out.trans (q3.mono HQ2.out.size))
  obtain ⟨B, hB⟩ : ∃ B : ByteArray, (⟨b.toArray⟩ : ByteArray) = B := ⟨_, rfl⟩
  have hBs : B.size ≤ 1320 := hB ▸ codeP_size hlb
  have hBl : B.data.toList = b := by rw [← hB]
  rw [hB]
  have HB := Lib.hid (And.intro hBs (And.intro hBl (show b.length = B.size by rw [← hBl, Array.length_toList]; rfl)))
  clear q3 hcb hlb hB hBs hBl
  obtain ⟨E, hE⟩ : ∃ E, A ++ B = E := ⟨_, rfl⟩
  have HE := Lib.hid (show E.data.toList = a ++ b ∧ E.size ≤ 2640 from ⟨by rw [← hE, bytes_app, HA.out.2.1, HB.out.2.1], by rw [← hE, bytes_sum]; have := HA.out.1; have := HB.out.1; omega⟩)
  have s1 : A.size + B.size ≤ 2640 := by have := HA.out.1; have := HB.out.1; omega
  go_wp2_with fail
  refine (jumps_code _ A (by have := HA.out.1; omega)).mono ?_
  rintro _ w4 ⟨⟨xa, xn, xc, rfl, hj⟩, q⟩
  have HQ4 := Lib.hid (HQ3.out.trans (q.mono HQ3.out.size))
  have QS4 := Lib.hid q
  rw [show A.data.toList = a from HA.out.2.1] at hj
  have hj' := hj.nums (fun z hz => by have := (jumps_mem _ z hz).1; have := HA.out; omega)
  obtain ⟨xa', xc', e, h1, h2⟩ := hj'.shape
  injection e with e0 e1 e2
  subst e0 e2
  rw [intsL_len] at e1 h1
  have Hx := Lib.hid hj'
  have Lx := Lib.hid e1
  have Cx := Lib.hid (And.intro h1 h2)
  clear q hj hj' e1 h1 h2
  go_wp2_with fail
  refine (jumps_code _ B (by have := HB.out.1; omega)).mono ?_
  rintro _ w5 ⟨⟨ya, yn, yc, rfl, hj⟩, q⟩
  have HQ5 := Lib.hid (HQ4.out.trans (q.mono HQ4.out.size))
  have QS5 := Lib.hid q
  rw [show B.data.toList = b from HB.out.2.1] at hj
  have hj' := hj.nums (fun z hz => by have := (jumps_mem _ z hz).1; have := HB.out; omega)
  obtain ⟨ya', yc', e, h1, h2⟩ := hj'.shape
  injection e with e0 e1 e2
  subst e0 e2
  rw [intsL_len] at e1 h1
  have Hy := Lib.hid hj'
  have Ly := Lib.hid e1
  have Cy := Lib.hid (And.intro h1 h2)
  clear q hj hj' e1 h1 h2
  go_wp2_with fail
  refine (jumps_code _ E (by have := HE.out.2; omega)).mono ?_
  rintro _ w6 ⟨⟨za, zn, zc, rfl, hj⟩, q⟩
  have HQ6 := Lib.hid (HQ5.out.trans (q.mono HQ5.out.size))
  have QS6 := Lib.hid q
  rw [show E.data.toList = a ++ b from HE.out.1] at hj
  have hj' := hj.nums (fun z hz => by have := (jumps_mem _ z hz).1; have h3 := HA.out; have h4 := HB.out; rw [List.length_append] at this; omega)
  obtain ⟨za', zc', e, h1, h2⟩ := hj'.shape
  injection e with e0 e1 e2
  subst e0 e2
  rw [intsL_len] at e1 h1
  have Hz := Lib.hid hj'
  have Lz := Lib.hid e1
  have Cz := Lib.hid (And.intro h1 h2)
  clear q hj hj' e1 h1 h2
  have Hx6 := Lib.hid ((Hx.out.later QS5.out).later QS6.out)
  have Hy6 := Lib.hid (Hy.out.later QS6.out)
  obtain ⟨X, hX⟩ : ∃ X, jumpsL a = X := ⟨_, rfl⟩
  obtain ⟨Y, hY⟩ : ∃ Y, jumpsL b = Y := ⟨_, rfl⟩
  have HZ6 := Lib.hid (show NumsAt w6 (.slice za zn zc) (intsL (X ++ Y.map (A.size + ·))) by rw [← HA.out.2.2, ← hX, ← hY, ← jumps_app HCA.out]; exact Hz.out)
  have HXL := Lib.hid (show X.length ≤ 1320 by rw [← hX]; have := HA.out; unfold jumpsL; have h1 := List.length_filter_le (fun p => byteAt a p == 91) (placesL a); have h2 : (placesL a).length ≤ a.length := placesF_len a _ _; omega)
  have HYL := Lib.hid (show Y.length ≤ 1320 by rw [← hY]; have := HB.out; unfold jumpsL; have h1 := List.length_filter_le (fun p => byteAt b p == 91) (placesL b); have h2 : (placesL b).length ≤ b.length := placesF_len b _ _; omega)
  rw [hX] at Hx6 Lx Cx
  rw [hY] at Hy6 Ly Cy
  have HXe := Lib.hid hX
  have HYe := Lib.hid hY
  clear Hx Hy Hz hX hY Lz Cz
  obtain ⟨vw, w7, hr7, hrow7, q7⟩ := copy_ints Hx6.out (by have := HXL.out; omega)
  have HROW7 := Lib.hid hrow7
  have HQ7 := Lib.hid q7
  clear hrow7 q7
  go_wp2_with (at_builtin; refine wpList_append_runB rfl (.const (.slice none 0 0)) (.tmp 31) _ _ rfl _ _ _ rfl rfl hr7 ?_)
  clear hr7
  have A0 : (0 : Int) ≤ (A.size : Int) := by omega
  have A1 : (A.size : Int) ≤ 1320 := by have := HA.out.1; omega
  have Y1 : (yn : Int) ≤ 1320 := by have := HYL.out; have := Ly.out; omega
  have X1 : (xn : Int) ≤ 1320 := by have := HXL.out; have := Lx.out; omega
  go_loopw [11, 12] (fun ov i wr => ∃ k : Nat, i = .int .i64 (k : Int) ∧ k ≤ yn ∧ JRow wr w6.heap.size ov (X ++ (Y.take k).map (A.size + ·)) ∧ Below w6.heap.size w6 wr) (fun _ i _ => yn - (intOf i).toNat)
  case atStart => exact ⟨0, rfl, Nat.zero_le _, by rw [List.take_zero, List.map_nil, List.append_nil]; exact HROW7.out, HQ7.out⟩
  case round =>
    obtain ⟨k, rfl, hk, hrow, hq⟩ := hrel
    obtain ⟨ov, hov⟩ : ∃ ov, ov = u11 := ⟨_, rfl⟩
    subst hov
    have HROW := Lib.hid hrow
    have HQ := Lib.hid hq
    have k0 : (0 : Int) ≤ (k : Int) := by omega
    clear hrow hq
    by_cases hlt : k < yn
    · have hltI : (k : Int) < (yn : Int) := by omega
      obtain ⟨y, hy⟩ : ∃ y, Y[k]? = some y := ⟨_, List.getElem?_eq_getElem (by have := Ly.out; omega)⟩
      obtain ⟨_, yb, rfl, _⟩ := Hy6.out.at (intsL_at hy)
      have c0 := (Hy6.out.later HQ.out).cellE (intsL_at hy)
      have hyl : y < 1320 := by
        have h1 := List.mem_of_getElem? hy
        rw [← HYe.out] at h1
        have h2 := (jumps_mem _ y h1).1
        have h3 := HB.out
        omega
      have y0 : (0 : Int) ≤ (y : Int) := by omega
      have y1 : (y : Int) < 1320 := by omega
      obtain ⟨p, hp⟩ : ∃ p, A.size + y = p := ⟨_, rfl⟩
      have hpI : (A.size : Int) + (y : Int) = (p : Int) := by omega
      have HT := Lib.hid (show X ++ (Y.take (k + 1)).map (A.size + ·) = (X ++ (Y.take k).map (A.size + ·)) ++ [p] by rw [List.take_add_one, hy, List.map_append, List.append_assoc, ← hp]; rfl)
      obtain ⟨va, wa, hra, hrow, hbel⟩ := row_push (W := w6) p HQ.out.size HROW.out (by rw [List.length_append, List.length_map, List.length_take]; have := HXL.out; have := HYL.out; omega)
      have HW := Lib.hid (And.intro hrow (show Below w6.heap.size w6 wa from HQ.out.trans hbel))
      have HLT := Lib.hid hlt
      clear hrow hbel hy hyl hp hlt hk
      go_wp2_with (at_builtin; refine wpList_append_runB rfl (.tmp 39) (.tmp 47) _ _ rfl _ _ _ rfl rfl hra ?_)
      go_roundw
      case rel => exact ⟨k + 1, by simp, HLT.out, by rw [HT.out]; exact HW.out.1, HW.out.2⟩
      case measure => have := HLT.out; simp [intOf]; omega
    · have hge : ¬ (k : Int) < (yn : Int) := by omega
      have HWANT := Lib.hid (show JRow wr w6.heap.size ov (X ++ Y.map (A.size + ·)) by
        have h := HROW.out
        rw [List.take_of_length_le (by have := Ly.out; omega)] at h
        exact h)
      clear hlt hk
      have Hx8 := Lib.hid (Hx6.out.later HQ.out)
      have HZ8 := Lib.hid (HZ6.out.later HQ.out)
      have HQ8 := Lib.hid (HQ6.out.trans (HQ.out.mono HQ6.out.size))
      obtain ⟨w8, hw8⟩ : ∃ w8, w8 = wr := ⟨_, rfl⟩
      subst hw8
      clear HROW
      go_wp2_with fail
      go_loopw [13] (fun i wr => ∃ k : Nat, i = .int .i64 (k : Int) ∧ k ≤ xn ∧ Below w8.heap.size w8 wr) (fun i _ => xn - (intOf i).toNat)
      case atStart => exact ⟨0, rfl, Nat.zero_le _, Below.refl _ _⟩
      case round =>
        obtain ⟨k, rfl, hk, hq⟩ := hrel
        have HQ := Lib.hid hq
        have k0 : (0 : Int) ≤ (k : Int) := by omega
        clear hq
        by_cases hlt : k < xn
        · have hltI : (k : Int) < (xn : Int) := by omega
          obtain ⟨x, hx⟩ : ∃ x, X[k]? = some x := ⟨_, List.getElem?_eq_getElem (by have := Lx.out; omega)⟩
          obtain ⟨_, xb, rfl, _⟩ := Hx8.out.at (intsL_at hx)
          have c0 := fun z : Ext wr => (Hx8.out.later (HQ.out.trans (z.below.mono HQ.out.size))).cellE (intsL_at hx)
          have hxm : x < a.length ∧ byteAt a x = 91 := by
            have h1 := List.mem_of_getElem? hx
            rw [← HXe.out] at h1
            exact jumps_mem _ x h1
          have hxl : x < A.size := by have := HA.out; omega
          have hxI : (x : Int) < (A.size : Int) := by omega
          have x0 : (0 : Int) ≤ (x : Int) := by omega
          have eI : (A[x].toNat : Int) = 91 := by rw [byte_of HA.out.2.1 hxl, hxm.2]; rfl
          have HLT := Lib.hid hlt
          have k1 : (k : Int) ≤ 1320 := by omega
          have N1 := Lib.hid (show decide ((x : Int) < 0) = false from decide_eq_false (by omega))
          have N2 := Lib.hid (show decide ((A.size : Int) ≤ (x : Int)) = false from decide_eq_false (by omega))
          have M2 := Lib.hid (show decide (A.size ≤ x) = false from decide_eq_false (by omega))
          have N3 := Lib.hid (show ((A[x].toNat : Int) == 91) = true by rw [eI]; rfl)
          have N4 := Lib.hid eI
          by_cases hk0 : k = 0
          · have hkz : ¬ (0 : Int) < (k : Int) := by omega
            have N5 := Lib.hid (show decide ((0 : Int) < (k : Int)) = false from decide_eq_false hkz)
            have M5 := Lib.hid (show decide (0 < k) = false from decide_eq_false (by omega))
            clear hlt hk hxm hx hk0
            go_wp2_with fail
            refine wp_region_quietL (C := Grows wr) hmx (by kernel_rfl) (grows_refl wr) ?_
            repeat (go_big_quiet_step (fail))
            try simp only [N1.out]
            repeat (go_big_quiet_step (fail))
            try simp only [M2.out]
            repeat (go_big_quiet_step (fail))
            try simp only [M5.out]
            repeat (go_big_quiet_step (fail))
            try simp only [N1.out, N2.out, N3.out, N4.out, N5.out, M2.out, M5.out]
            repeat (go_big_quiet_step (fail))
            refine wpQuiet_nil ?_
            rintro _ ⟨z, rfl⟩
            have HE := Lib.hid (HQ.out.trans (z.below.mono HQ.out.size))
            clear c0
            go_wp2_with fail
            go_roundw
            case rel => exact ⟨k + 1, by simp, HLT.out, HE.out⟩
            case measure => have := HLT.out; simp [intOf]; omega
          · have hkz : (0 : Int) < (k : Int) := by omega
            have N5 := Lib.hid (show decide ((0 : Int) < (k : Int)) = true from decide_eq_true hkz)
            have M5 := Lib.hid (show decide (0 < k) = true from decide_eq_true (by omega))
            obtain ⟨K, hK⟩ : ∃ K : Nat, k - 1 = K := ⟨_, rfl⟩
            have hKI : (k : Int) - 1 = (K : Int) := by omega
            have K0 : (0 : Int) ≤ (K : Int) := by omega
            have K1 : (K : Int) < (xn : Int) := by omega
            obtain ⟨x', hx'⟩ : ∃ x', X[K]? = some x' := ⟨_, List.getElem?_eq_getElem (by have := Lx.out; omega)⟩
            have c1 := fun z : Ext wr => (Hx8.out.later (HQ.out.trans (z.below.mono HQ.out.size))).cellE (intsL_at hx')
            have hup : x' < x := by
              have h := jumps_up a
              rw [HXe.out] at h
              obtain ⟨g1, e1⟩ := List.getElem?_eq_some_iff.1 hx'
              obtain ⟨g2, e2⟩ := List.getElem?_eq_some_iff.1 hx
              have := List.pairwise_iff_getElem.1 h K k g1 g2 (by omega)
              omega
            have hupI : ¬ (x : Int) ≤ (x' : Int) := by omega
            have N6 := Lib.hid (show decide ((x : Int) ≤ (x' : Int)) = false from decide_eq_false hupI)
            have M6 := Lib.hid (show decide (x ≤ x') = false from decide_eq_false (by omega))
            clear hlt hk hxm hx hx' hup hk0 hK
            go_wp2_with fail
            refine wp_region_quietL (C := Grows wr) hmx (by kernel_rfl) (grows_refl wr) ?_
            repeat (go_big_quiet_step (fail))
            try simp only [N1.out]
            repeat (go_big_quiet_step (fail))
            try simp only [M2.out]
            repeat (go_big_quiet_step (fail))
            try simp only [M5.out]
            repeat (go_big_quiet_step (fail))
            try simp only [M6.out]
            repeat (go_big_quiet_step (fail))
            refine wpQuiet_nil ?_
            rintro _ ⟨z, rfl⟩
            have HE := Lib.hid (HQ.out.trans (z.below.mono HQ.out.size))
            clear c0 c1
            go_wp2_with fail
            go_roundw
            case rel => exact ⟨k + 1, by simp, HLT.out, HE.out⟩
            case measure => have := HLT.out; simp [intOf]; omega
        · have hge : ¬ (k : Int) < (xn : Int) := by omega
          clear hlt hk
          have Hx9 := Lib.hid (Hx8.out.later HQ.out)
          have HZ9 := Lib.hid (HZ8.out.later HQ.out)
          have HWANT9 := Lib.hid (HWANT.out.laterJ HQ.out)
          have HQ9 := Lib.hid (HQ8.out.trans (HQ.out.mono HQ8.out.size))
          obtain ⟨w9, hw9⟩ : ∃ w9, w9 = wr := ⟨_, rfl⟩
          subst hw9
          clear Hx8 HZ8 HWANT
          go_wp2_with fail
          go_loopw [14, 15, 16] (fun q t i wr => ∃ q' t' k f : Nat, q = .int .i64 (q' : Int) ∧ t = .int .i64 (t' : Int) ∧ i = .int .i64 (k : Int) ∧ k ≤ A.size ∧ t' ≤ xn ∧ q' ≤ 32 ∧ X.drop t' = fromJ a f (k + q') ∧ a.length - (k + q') ≤ f ∧ Below w9.heap.size w9 wr) (fun _ _ i _ => A.size - (intOf i).toNat)
          case atStart => exact ⟨0, 0, 0, a.length, rfl, rfl, rfl, Nat.zero_le _, Nat.zero_le _, Nat.zero_le _, HXe.out.symm, Nat.le_refl _, Below.refl _ _⟩
          case round =>
            obtain ⟨q, t, k, f, rfl, rfl, rfl, hk, ht, hq32, hdr, hf, hqb⟩ := hrel
            have HQ := Lib.hid hqb
            have HDR := Lib.hid hdr
            have HF := Lib.hid (And.intro hf (And.intro ht hq32))
            have k0 : (0 : Int) ≤ (k : Int) := by omega
            have t0 : (0 : Int) ≤ (t : Int) := by omega
            have q0 : (0 : Int) ≤ (q : Int) := by omega
            have q1 : (q : Int) ≤ 32 := by omega
            have t1 : (t : Int) ≤ 1320 := by omega
            clear hqb hdr hf ht hq32
            by_cases hlt : k < A.size
            · have hltI : (k : Int) < (A.size : Int) := by omega
              have k1 : (k : Int) ≤ 1320 := by omega
              have HLT := Lib.hid hlt
              have hal : k < a.length := by have := HA.out; omega
              have hbt := byte_of HA.out.2.1 hlt
              obtain ⟨y, hy⟩ : ∃ y, byteAt a k = y := ⟨_, rfl⟩
              have hy256 : y < 256 := hy ▸ byteAt_lt a k
              rw [hy] at hbt
              have HBT := Lib.hid hbt
              have HY := Lib.hid hy
              have b0 : (0 : Int) ≤ (A[k].toNat : Int) := by omega
              have b1 : (A[k].toNat : Int) < 256 := by omega
              clear hbt hk
              by_cases hqz : q = 0
              · have hqI : (q : Int) = 0 := by omega
                have HQZ := Lib.hid hqz
                obtain ⟨g, hg⟩ : ∃ g, f = g + 1 := ⟨f - 1, by have := HF.out; omega⟩
                have hst := fromJ_step a g k hal
                have HG := Lib.hid hg
                have HST := Lib.hid (show X.drop t = if y = 91 then k :: fromJ a g (k + 1) else fromJ a g (k + 1 + pushN y) by rw [HDR.out, hg, hqz, show k + 0 = k from rfl, hst, hy])
                have HGL := Lib.hid (show a.length - (k + 1) ≤ g by have := HF.out; omega)
                clear hst hg hy hal
                by_cases h91 : y = 91
                · have eI : (A[k].toNat : Int) = 91 := by have := HBT.out; omega
                  have hd := HST.out
                  rw [if_pos h91] at hd
                  have htl : t < X.length := by
                    rcases Nat.lt_or_ge t X.length with h | h
                    · exact h
                    · rw [List.drop_eq_nil_of_le h] at hd; cases hd
                  have hx : X[t]? = some k := by
                    rw [List.drop_eq_getElem_cons htl] at hd
                    injection hd with e1 _
                    rw [List.getElem?_eq_getElem htl, e1]
                  have HD2 := Lib.hid (show X.drop (t + 1) = fromJ a g (k + 1) by rw [← List.tail_drop, hd]; rfl)
                  have htx : t < xn := by have := Lx.out; omega
                  have htI : (t : Int) < (xn : Int) := by omega
                  obtain ⟨_, xb, rfl, _⟩ := Hx9.out.at (intsL_at hx)
                  have c0 := (Hx9.out.later HQ.out).cellE (intsL_at hx)
                  have HTX := Lib.hid htx
                  have B1 : ((q : Int) == 0) = true := by rw [hqI]; rfl
                  have B2 : ((A[k].toNat : Int) == 91) = true := by rw [eI]; rfl
                  have B3 : (!((A[k].toNat : Int) == 91)) = false := by rw [B2]; rfl
                  clear hd htl hx htx h91 hqz
                  go_wp2_with fail
                  all_goals try (rename_i hbad; exact absurd (hbad.symm.trans B3) (by decide))
                  go_roundw
                  first
                  | (case rel => exact ⟨q, t + 1, k + 1, g, by first | rfl | (simp; done) | (simp; omega), by first | rfl | (simp; done) | (simp; omega), by first | rfl | (simp; done) | (simp; omega), HLT.out, HTX.out, HF.out.2.2, by rw [HQZ.out, Nat.add_zero]; exact HD2.out, by rw [HQZ.out, Nat.add_zero]; exact HGL.out, HQ.out⟩
                     case measure => have := HLT.out; simp [intOf]; omega)
                  | (case roundEnd => exact ⟨⟨q, t + 1, k + 1, g, by first | rfl | (simp; done) | (simp; omega), by first | rfl | (simp; done) | (simp; omega), by first | rfl | (simp; done) | (simp; omega), HLT.out, HTX.out, HF.out.2.2, by rw [HQZ.out, Nat.add_zero]; exact HD2.out, by rw [HQZ.out, Nat.add_zero]; exact HGL.out, HQ.out⟩, by have := HLT.out; simp [intOf]; omega⟩)
                · have eI : ¬ (A[k].toNat : Int) = 91 := by have := HBT.out; omega
                  have hd := HST.out
                  rw [if_neg h91] at hd
                  have HD2 := Lib.hid hd
                  have HNX := Lib.hid (show ∀ x ∈ X.drop t, k < x from fun x hx => by rw [hd] at hx; have := fromJ_ge a g _ x hx; omega)
                  clear hd h91 hqz
                  by_cases htx : t < xn
                  · have htI : (t : Int) < (xn : Int) := by omega
                    obtain ⟨x, hx⟩ : ∃ x, X[t]? = some x := ⟨_, List.getElem?_eq_getElem (by have := Lx.out; omega)⟩
                    obtain ⟨_, xb, rfl, _⟩ := Hx9.out.at (intsL_at hx)
                    have c0 := (Hx9.out.later HQ.out).cellE (intsL_at hx)
                    have hxk : k < x := HNX.out x (by
                      obtain ⟨g2, e2⟩ := List.getElem?_eq_some_iff.1 hx
                      rw [List.drop_eq_getElem_cons g2, e2]; simp)
                    have hne : ¬ (x : Int) = (k : Int) := by omega
                    clear hx hxk htx
                    by_cases r1 : y < 96
                    · have rI : (A[k].toNat : Int) < 96 := by have := HBT.out; omega
                      have HP := Lib.hid (show pushN y = 0 by unfold pushN; rw [if_neg (by omega)])
                      clear r1
                      go_wp2_with fail
                      go_roundw
                      first
                      | (case rel => exact ⟨q, t, k + 1, g, by first | rfl | (simp; done) | (simp; omega), by first | rfl | (simp; done) | (simp; omega), by first | rfl | (simp; done) | (simp; omega), HLT.out, HF.out.2.1, HF.out.2.2, by have h := HD2.out; rw [HP.out] at h; rw [HQZ.out]; exact h, by rw [HQZ.out, Nat.add_zero]; exact HGL.out, HQ.out⟩
                         case measure => have := HLT.out; simp [intOf]; omega)
                      | (case roundEnd => exact ⟨⟨q, t, k + 1, g, by first | rfl | (simp; done) | (simp; omega), by first | rfl | (simp; done) | (simp; omega), by first | rfl | (simp; done) | (simp; omega), HLT.out, HF.out.2.1, HF.out.2.2, by have h := HD2.out; rw [HP.out] at h; rw [HQZ.out]; exact h, by rw [HQZ.out, Nat.add_zero]; exact HGL.out, HQ.out⟩, by have := HLT.out; simp [intOf]; omega⟩)
                    · have rI : (96 : Int) ≤ (A[k].toNat : Int) := by have := HBT.out; omega
                      by_cases r2 : y ≤ 127
                      · have rJ : (A[k].toNat : Int) ≤ 127 := by have := HBT.out; omega
                        obtain ⟨P, hP⟩ : ∃ P, pushN y = P := ⟨_, rfl⟩
                        have hPI : (A[k].toNat : Int) - 95 = (P : Int) := by have := HBT.out; unfold pushN at hP; rw [if_pos (by omega)] at hP; omega
                        have HP := Lib.hid hP
                        have HPL := Lib.hid (pushN_le y)
                        clear r1 r2 hP
                        go_wp2_with fail
                        go_roundw
                        first
                        | (case rel => exact ⟨P, t, k + 1, g, by first | rfl | (simp; done) | (simp; omega), by first | rfl | (simp; done) | (simp; omega), by first | rfl | (simp; done) | (simp; omega), HLT.out, HF.out.2.1, by rw [← HP.out]; exact HPL.out, by have h := HD2.out; rw [HP.out] at h; exact h, by have := HGL.out; omega, HQ.out⟩
                           case measure => have := HLT.out; simp [intOf]; omega)
                        | (case roundEnd => exact ⟨⟨P, t, k + 1, g, by first | rfl | (simp; done) | (simp; omega), by first | rfl | (simp; done) | (simp; omega), by first | rfl | (simp; done) | (simp; omega), HLT.out, HF.out.2.1, by rw [← HP.out]; exact HPL.out, by have h := HD2.out; rw [HP.out] at h; exact h, by have := HGL.out; omega, HQ.out⟩, by have := HLT.out; simp [intOf]; omega⟩)
                      · have rJ : (127 : Int) < (A[k].toNat : Int) := by have := HBT.out; omega
                        have HP := Lib.hid (show pushN y = 0 by unfold pushN; rw [if_neg (by omega)])
                        clear r1 r2
                        go_wp2_with fail
                        go_roundw
                        first
                        | (case rel => exact ⟨q, t, k + 1, g, by first | rfl | (simp; done) | (simp; omega), by first | rfl | (simp; done) | (simp; omega), by first | rfl | (simp; done) | (simp; omega), HLT.out, HF.out.2.1, HF.out.2.2, by have h := HD2.out; rw [HP.out] at h; rw [HQZ.out]; exact h, by rw [HQZ.out, Nat.add_zero]; exact HGL.out, HQ.out⟩
                           case measure => have := HLT.out; simp [intOf]; omega)
                        | (case roundEnd => exact ⟨⟨q, t, k + 1, g, by first | rfl | (simp; done) | (simp; omega), by first | rfl | (simp; done) | (simp; omega), by first | rfl | (simp; done) | (simp; omega), HLT.out, HF.out.2.1, HF.out.2.2, by have h := HD2.out; rw [HP.out] at h; rw [HQZ.out]; exact h, by rw [HQZ.out, Nat.add_zero]; exact HGL.out, HQ.out⟩, by have := HLT.out; simp [intOf]; omega⟩)
                  · have htI : ¬ (t : Int) < (xn : Int) := by omega
                    clear htx
                    by_cases r1 : y < 96
                    · have rI : (A[k].toNat : Int) < 96 := by have := HBT.out; omega
                      have HP := Lib.hid (show pushN y = 0 by unfold pushN; rw [if_neg (by omega)])
                      clear r1
                      go_wp2_with fail
                      go_roundw
                      first
                      | (case rel => exact ⟨q, t, k + 1, g, by first | rfl | (simp; done) | (simp; omega), by first | rfl | (simp; done) | (simp; omega), by first | rfl | (simp; done) | (simp; omega), HLT.out, HF.out.2.1, HF.out.2.2, by have h := HD2.out; rw [HP.out] at h; rw [HQZ.out]; exact h, by rw [HQZ.out, Nat.add_zero]; exact HGL.out, HQ.out⟩
                         case measure => have := HLT.out; simp [intOf]; omega)
                      | (case roundEnd => exact ⟨⟨q, t, k + 1, g, by first | rfl | (simp; done) | (simp; omega), by first | rfl | (simp; done) | (simp; omega), by first | rfl | (simp; done) | (simp; omega), HLT.out, HF.out.2.1, HF.out.2.2, by have h := HD2.out; rw [HP.out] at h; rw [HQZ.out]; exact h, by rw [HQZ.out, Nat.add_zero]; exact HGL.out, HQ.out⟩, by have := HLT.out; simp [intOf]; omega⟩)
                    · have rI : (96 : Int) ≤ (A[k].toNat : Int) := by have := HBT.out; omega
                      by_cases r2 : y ≤ 127
                      · have rJ : (A[k].toNat : Int) ≤ 127 := by have := HBT.out; omega
                        obtain ⟨P, hP⟩ : ∃ P, pushN y = P := ⟨_, rfl⟩
                        have hPI : (A[k].toNat : Int) - 95 = (P : Int) := by have := HBT.out; unfold pushN at hP; rw [if_pos (by omega)] at hP; omega
                        have HP := Lib.hid hP
                        have HPL := Lib.hid (pushN_le y)
                        clear r1 r2 hP
                        go_wp2_with fail
                        go_roundw
                        first
                        | (case rel => exact ⟨P, t, k + 1, g, by first | rfl | (simp; done) | (simp; omega), by first | rfl | (simp; done) | (simp; omega), by first | rfl | (simp; done) | (simp; omega), HLT.out, HF.out.2.1, by rw [← HP.out]; exact HPL.out, by have h := HD2.out; rw [HP.out] at h; exact h, by have := HGL.out; omega, HQ.out⟩
                           case measure => have := HLT.out; simp [intOf]; omega)
                        | (case roundEnd => exact ⟨⟨P, t, k + 1, g, by first | rfl | (simp; done) | (simp; omega), by first | rfl | (simp; done) | (simp; omega), by first | rfl | (simp; done) | (simp; omega), HLT.out, HF.out.2.1, by rw [← HP.out]; exact HPL.out, by have h := HD2.out; rw [HP.out] at h; exact h, by have := HGL.out; omega, HQ.out⟩, by have := HLT.out; simp [intOf]; omega⟩)
                      · have rJ : (127 : Int) < (A[k].toNat : Int) := by have := HBT.out; omega
                        have HP := Lib.hid (show pushN y = 0 by unfold pushN; rw [if_neg (by omega)])
                        clear r1 r2
                        go_wp2_with fail
                        go_roundw
                        first
                        | (case rel => exact ⟨q, t, k + 1, g, by first | rfl | (simp; done) | (simp; omega), by first | rfl | (simp; done) | (simp; omega), by first | rfl | (simp; done) | (simp; omega), HLT.out, HF.out.2.1, HF.out.2.2, by have h := HD2.out; rw [HP.out] at h; rw [HQZ.out]; exact h, by rw [HQZ.out, Nat.add_zero]; exact HGL.out, HQ.out⟩
                           case measure => have := HLT.out; simp [intOf]; omega)
                        | (case roundEnd => exact ⟨⟨q, t, k + 1, g, by first | rfl | (simp; done) | (simp; omega), by first | rfl | (simp; done) | (simp; omega), by first | rfl | (simp; done) | (simp; omega), HLT.out, HF.out.2.1, HF.out.2.2, by have h := HD2.out; rw [HP.out] at h; rw [HQZ.out]; exact h, by rw [HQZ.out, Nat.add_zero]; exact HGL.out, HQ.out⟩, by have := HLT.out; simp [intOf]; omega⟩)
              · have hqI : (0 : Int) < (q : Int) := by omega
                have hqJ : ¬ (q : Int) = 0 := by omega
                have HNX := Lib.hid (show ∀ x ∈ X.drop t, k < x from fun x hx => by rw [HDR.out] at hx; have := fromJ_ge a f _ x hx; omega)
                clear hy hal
                by_cases htx : t < xn
                · have htI : (t : Int) < (xn : Int) := by omega
                  obtain ⟨x, hx⟩ : ∃ x, X[t]? = some x := ⟨_, List.getElem?_eq_getElem (by have := Lx.out; omega)⟩
                  obtain ⟨_, xb, rfl, _⟩ := Hx9.out.at (intsL_at hx)
                  have c0 := (Hx9.out.later HQ.out).cellE (intsL_at hx)
                  have hxk : k < x := HNX.out x (by
                    obtain ⟨g2, e2⟩ := List.getElem?_eq_some_iff.1 hx
                    rw [List.drop_eq_getElem_cons g2, e2]; simp)
                  have hne : ¬ (x : Int) = (k : Int) := by omega
                  clear hx hxk htx
                  obtain ⟨Q, hQ⟩ : ∃ Q, q - 1 = Q := ⟨_, rfl⟩
                  have hQI : (q : Int) - 1 = (Q : Int) := by omega
                  have HQQ := Lib.hid (show k + 1 + Q = k + q ∧ Q ≤ 32 by have := HF.out; omega)
                  clear hQ hqz
                  go_wp2_with fail
                  go_roundw
                  first
                  | (case rel => exact ⟨Q, t, k + 1, f, by first | rfl | (simp; done) | (simp; omega), by first | rfl | (simp; done) | (simp; omega), by first | rfl | (simp; done) | (simp; omega), HLT.out, HF.out.2.1, HQQ.out.2, by rw [HQQ.out.1]; exact HDR.out, by rw [HQQ.out.1]; exact HF.out.1, HQ.out⟩
                     case measure => have := HLT.out; simp [intOf]; omega)
                  | (case roundEnd => exact ⟨⟨Q, t, k + 1, f, by first | rfl | (simp; done) | (simp; omega), by first | rfl | (simp; done) | (simp; omega), by first | rfl | (simp; done) | (simp; omega), HLT.out, HF.out.2.1, HQQ.out.2, by rw [HQQ.out.1]; exact HDR.out, by rw [HQQ.out.1]; exact HF.out.1, HQ.out⟩, by have := HLT.out; simp [intOf]; omega⟩)
                · have htI : ¬ (t : Int) < (xn : Int) := by omega
                  clear htx
                  obtain ⟨Q, hQ⟩ : ∃ Q, q - 1 = Q := ⟨_, rfl⟩
                  have hQI : (q : Int) - 1 = (Q : Int) := by omega
                  have HQQ := Lib.hid (show k + 1 + Q = k + q ∧ Q ≤ 32 by have := HF.out; omega)
                  clear hQ hqz
                  go_wp2_with fail
                  go_roundw
                  first
                  | (case rel => exact ⟨Q, t, k + 1, f, by first | rfl | (simp; done) | (simp; omega), by first | rfl | (simp; done) | (simp; omega), by first | rfl | (simp; done) | (simp; omega), HLT.out, HF.out.2.1, HQQ.out.2, by rw [HQQ.out.1]; exact HDR.out, by rw [HQQ.out.1]; exact HF.out.1, HQ.out⟩
                     case measure => have := HLT.out; simp [intOf]; omega)
                  | (case roundEnd => exact ⟨⟨Q, t, k + 1, f, by first | rfl | (simp; done) | (simp; omega), by first | rfl | (simp; done) | (simp; omega), by first | rfl | (simp; done) | (simp; omega), HLT.out, HF.out.2.1, HQQ.out.2, by rw [HQQ.out.1]; exact HDR.out, by rw [HQQ.out.1]; exact HF.out.1, HQ.out⟩, by have := HLT.out; simp [intOf]; omega⟩)
            · have hge : ¬ (k : Int) < (A.size : Int) := by omega
              have hz := HZ9.out.later HQ.out
              have hw := HWANT9.out.laterJ HQ.out
              obtain ⟨oa, on, om, rfl⟩ : ∃ oa on om, ov = .slice oa on om := by
                rcases hw.2 with ⟨h, _⟩ | ⟨_, _, _, h, _⟩
                · exact ⟨_, _, _, h⟩
                · exact ⟨_, _, _, h⟩
              have hw2 := hw.nums (fun x hx => by
                rcases List.mem_append.1 hx with hx | hx
                · rw [← HXe.out] at hx; have := (jumps_mem a x hx).1; have := HA.out; omega
                · obtain ⟨y, hy, rfl⟩ := List.mem_map.1 hx
                  rw [← HYe.out] at hy; have := (jumps_mem b y hy).1; have := HB.out; have := HA.out; omega)
              have HS := Lib.hid (same_ints _ _ _ _ hz hw2)
              clear hz hw hw2 hlt hk
              go_wp2_with fail
              refine HS.out.mono ?_
              rintro _ wf ⟨rfl, qf⟩
              have HQF := Lib.hid (HQ9.out.trans ((HQ.out.trans (qf.mono HQ.out.size)).mono HQ9.out.size))
              clear qf
              go_wp2_with fail
              go_ret
              exact ⟨rfl, HQF.out⟩
end
end Go.Proofs.YthcmfadofogfaaaDoor
