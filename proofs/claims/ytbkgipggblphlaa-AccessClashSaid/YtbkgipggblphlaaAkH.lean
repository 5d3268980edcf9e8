/- The laws' helper Sets. Conditions: the raw numbers lie in memory. -/
import Derived.Test.YtbkgipggblphlaaAkG
namespace Go.Proofs.Ytbkgipggblphlaa
open Go Go.RowKit
attribute [local go_sem] Oper.semAt_some Grows wide_fn

theorem keyN_may (c d : Int) : strayB (keyN c d) = false := by
  unfold keyN strayB
  split <;> simp
theorem keysN_may (zs : List (Int × Int)) : (keysN zs).any strayB = false := by
  rw [List.any_eq_false]
  intro x hx
  obtain ⟨p, _, rfl⟩ := List.mem_map.1 hx
  rw [show strayB (kfN p) = false from keyN_may _ _]
  decide
/-- The set that raw numbers speak of. -/
noncomputable def setN (zs : List (Int × Int)) : List Ky := setL (keysN zs)
set_option maxRecDepth 100000 in
set_option maxHeartbeats 4000000 in
theorem sets10_any (W : World) (v1 v2 : Value) (z1 z2 : List (Int × Int)) (h1 : RawAt W v1 z1) (h2 : RawAt W v2 z2) :
    Calls Try.prog 6 #[v1, v2] W fun e w' => ∃ x y, e = .returned (.agg #[x, y]) ∧ KeysAt w' x (setN z1) ∧ KeysAt w' y (setN z2) ∧ Below W.heap.size W w' := by
  have hB := Has.new W 24 #[.slice none 0 0, .slice none 0 0]
  have hq0 := (Below.refl W.heap.size W).alloc (Nat.le_refl _) (.cells #[.slice none 0 0, .slice none 0 0] 24)
  obtain ⟨V, hV⟩ : ∃ V, W.alloc (.cells #[.slice none 0 0, .slice none 0 0] 24) = V := ⟨_, rfl⟩
  rw [hV] at hB hq0
  have Q := Lib.hid hq0
  have HB := Lib.hid hB
  have K1 := Lib.hid (keys_any V v1 z1 (h1.later hq0))
  have K2 := Lib.hid (fun (X : World) (hX : Below V.heap.size V X) => keys_any X v2 z2 (h2.later (hq0.trans (hX.mono hq0.size))))
  obtain ⟨ra, rc, rfl, _, _⟩ := h1
  obtain ⟨sa, sc, rfl, _, _⟩ := h2
  clear hB hq0
  generalize z1.length = n1 at *
  generalize z2.length = n2 at *
  go_enter Try.func6, Try.ntmps6
  go_wp2_with fail
  clear hV
  refine K1.out.mono ?_
  rintro _ w1 ⟨v3, rfl, hr3, hb1⟩
  have hk3 := hr3.keys (keysN_ok z1)
  obtain ⟨a3, c3, hv3, _⟩ := hk3.shape
  subst hv3
  have K3 := Lib.hid hk3
  have Q1 := Lib.hid hb1
  clear hk3 hr3 hb1
  go_wp2_with fail
  refine (K2.out w1 Q1.out).mono ?_
  rintro _ w2 ⟨v4, rfl, hr4, hb2⟩
  have hk4 := hr4.keys (keysN_ok z2)
  obtain ⟨a4, c4, hv4, _⟩ := hk4.shape
  subst hv4
  have MK := Lib.hid (rmake_any w2 _ _ (keysN z1) (keysN z2) (K3.out.later hb2) hk4 (keysN_may z1) (keysN_may z2) (by have := keysN_len z1; omega) (by have := keysN_len z2; omega))
  have Q2 := Lib.hid (Q1.out.trans (hb2.mono Q1.out.size))
  clear hk4 hr4 hb2 K3
  generalize (keysN z1).length = m1 at *
  generalize (keysN z2).length = m2 at *
  go_wp2_with fail
  refine MK.out.mono ?_
  rintro _ w3 ⟨x5, y5, rfl, kx5, ky5, hb3⟩
  obtain ⟨ax, cx, ex, _⟩ := kx5.shape
  obtain ⟨ay, cy, ey, _⟩ := ky5.shape
  subst ex ey
  have KX := Lib.hid kx5
  have KY := Lib.hid ky5
  have Q3 := Lib.hid (Q2.out.trans (hb3.mono Q2.out.size))
  clear kx5 ky5 hb3 MK
  generalize hn3 : (setL (keysN z1)).length = n3 at *
  generalize hn4 : (setL (keysN z2)).length = n4 at *
  have hBB := Has.new w3 24 #[.slice ax n3 cx, .slice ay n4 cy]
  have hqq := (Below.refl w3.heap.size w3).alloc (Nat.le_refl _) (.cells #[.slice ax n3 cx, .slice ay n4 cy] 24)
  obtain ⟨W5, hW5⟩ : ∃ W5, w3.alloc (.cells #[.slice ax n3 cx, .slice ay n4 cy] 24) = W5 := ⟨_, rfl⟩
  rw [hW5] at hBB hqq
  have Q5 := Lib.hid (Q3.out.trans (hqq.mono Q3.out.size))
  have d0 := hBB.cell 0 _ rfl
  have d1 := hBB.cell 1 _ rfl
  have b7 := HB.out.later Q5.out
  have y0 := b7.cell 0 _ rfl
  have y1 := b7.cell 1 _ rfl
  have f0 := b7.frozen 0
  have f1 := b7.frozen 1
  have hF := Lib.hid ((b7.set 0 (.slice ax n3 cx)).set 1 (.slice ay n4 cy))
  have QF := Lib.hid (((Q.out.trans (Q5.out.mono Q.out.size)).setCell (p := ⟨W.heap.size, 0, none⟩) (Nat.le_refl _) (.slice ax n3 cx)).setCell (p := ⟨W.heap.size, 1, none⟩) (Nat.le_refl _) (.slice ay n4 cy))
  have b7s : Has (W5.setCell ⟨W.heap.size, 0, none⟩ (.slice ax n3 cx)) W.heap.size 24 #[.slice ax n3 cx, .slice none 0 0] := b7.set 0 _
  have KA2 := Lib.hid (((KX.out.later hqq).away b7 0 (.slice ax n3 cx)).away b7s 1 (.slice ay n4 cy))
  have KB2 := Lib.hid (((KY.out.later hqq).away b7 0 (.slice ax n3 cx)).away b7s 1 (.slice ay n4 cy))
  have HLt := Lib.hid HB.out.lt
  clear b7s b7 hqq hBB
  go_wp2_with fail
  refine bodyPost_ret (results_sets rfl rfl hF.out) rfl ?_
  exact ⟨_, _, rfl, KA2.out, KB2.out, QF.out⟩
end Go.Proofs.Ytbkgipggblphlaa
