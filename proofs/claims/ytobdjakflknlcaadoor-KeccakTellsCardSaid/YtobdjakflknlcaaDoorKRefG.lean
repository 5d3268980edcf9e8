/- The reference's bits of the rounds' numbers. -/
import Derived.Test.YtobdjakflknlcaaDoorKRefF
import Derived.Maps.AppendAt
namespace Go.Proofs.YtobdjakflknlcaaDoor
open Go Go.RowKit Go.Shelf
attribute [local go_sem] Oper.semAt_some Grows wide_fn field0

/-- The register, as a number. -/
def stp (s : Nat) : Nat := 2 * s % 256 ^^^ (if 128 ≤ s then 113 else 0)
def reg : Nat → Nat
  | 0 => 1
  | t + 1 => stp (reg t)
theorem stp_lt (s : Nat) : stp s < 256 := by
  unfold stp
  exact Nat.xor_lt_two_pow (n := 8) (Nat.mod_lt _ (by decide)) (by split <;> decide)
theorem reg_lt : ∀ t, reg t < 256
  | 0 => by decide
  | t + 1 => stp_lt _
def bt8 (s j : Nat) : Nat := s / 2 ^ j % 2
def lf (t j : Nat) : Nat := bt8 (reg t) j
def rcN (t : Nat) : Nat := lf t 0
theorem lf_le (t j : Nat) : lf t j ≤ 1 := by unfold lf bt8; omega
theorem stp_bits : ∀ s : Fin 256, ∀ j : Fin 8, bt8 (stp s.val) j.val = if j.val = 6 then (bt8 s.val 5 + bt8 s.val 7) % 2 else if j.val = 5 then (bt8 s.val 4 + bt8 s.val 7) % 2 else if j.val = 4 then (bt8 s.val 3 + bt8 s.val 7) % 2 else if j.val = 0 then (0 + bt8 s.val 7) % 2 else bt8 s.val (j.val - 1) := by decide +kernel
theorem lf_succ (t j : Nat) (hj : j < 8) : lf (t + 1) j = if j = 6 then (lf t 5 + lf t 7) % 2 else if j = 5 then (lf t 4 + lf t 7) % 2 else if j = 4 then (lf t 3 + lf t 7) % 2 else if j = 0 then (0 + lf t 7) % 2 else lf t (j - 1) :=
  stp_bits ⟨reg t, reg_lt t⟩ ⟨j, hj⟩
def n0 (t j : Nat) : Nat := if j = 0 then 0 else lf t (j - 1)
def n1 (t j : Nat) : Nat := if j = 0 then (n0 t 0 + n0 t 8) % 2 else n0 t j
def n2 (t j : Nat) : Nat := if j = 4 then (n1 t 4 + n1 t 8) % 2 else n1 t j
def n3 (t j : Nat) : Nat := if j = 5 then (n2 t 5 + n2 t 8) % 2 else n2 t j
def n4 (t j : Nat) : Nat := if j = 6 then (n3 t 6 + n3 t 8) % 2 else n3 t j
theorem n0_le (t j : Nat) : n0 t j ≤ 1 := by unfold n0; split; omega; exact lf_le _ _
theorem n1_le (t j : Nat) : n1 t j ≤ 1 := by unfold n1; split; omega; exact n0_le _ _
theorem n2_le (t j : Nat) : n2 t j ≤ 1 := by unfold n2; split; omega; exact n1_le _ _
theorem n3_le (t j : Nat) : n3 t j ≤ 1 := by unfold n3; split; omega; exact n2_le _ _
theorem n4_lf (t j : Nat) (hj : j < 8) : lf (t + 1) j = n4 t j := by
  rw [lf_succ t j hj]
  have a8 : n0 t 8 = lf t 7 := rfl
  have b8 : n1 t 8 = lf t 7 := rfl
  have c8 : n2 t 8 = lf t 7 := rfl
  have d8 : n3 t 8 = lf t 7 := rfl
  have b4 : n1 t 4 = lf t 3 := rfl
  have c5 : n2 t 5 = lf t 4 := rfl
  have d6 : n3 t 6 = lf t 5 := rfl
  unfold n4
  rw [d6, d8]
  by_cases h6 : j = 6
  · rw [if_pos h6, if_pos h6]
  · rw [if_neg h6, if_neg h6]
    unfold n3
    rw [c5, c8]
    by_cases h5 : j = 5
    · rw [if_pos h5, if_pos h5]
    · rw [if_neg h5, if_neg h5]
      unfold n2
      rw [b4, b8]
      by_cases h4 : j = 4
      · rw [if_pos h4, if_pos h4]
      · rw [if_neg h4, if_neg h4]
        unfold n1
        rw [a8]
        by_cases h0 : j = 0
        · rw [if_pos h0, if_pos h0]; rfl
        · rw [if_neg h0, if_neg h0]
          unfold n0
          rw [if_neg h0]
theorem n0_row (t : Nat) : [Value.int .i64 0] ++ rowI (lf t) 8 = rowI (n0 t) 9 := by
  unfold rowI
  rw [List.range_succ_eq_map, List.map_cons, List.map_map]
  rfl

theorem grown_of_set (W : World) (g k : Nat) (v : Value) : W.grownBy (W.setCell ⟨g, k, none⟩ v) (some g) := grown_set (grown_of_below (Below.refl W.heap.size W) (some g)) (p := ⟨g, k, none⟩) (.inl rfl) v

set_option maxRecDepth 100000 in
set_option maxHeartbeats 16000000 in
theorem rcs_calls (w : World) :
    Calls Tryd.prog 16 #[.int .i64 168] w fun e w' => ∃ h c, e = .returned (.slice (some ⟨h, 0, none⟩) 168 c) ∧ w.heap.size ≤ h ∧ RowAt w' h 168 rcN ∧ Below w.heap.size w w' := by
  have hmx : Tryd.prog.follows .mixedOrders = true := by kernel_rfl
  have R0 : RowAt (w.alloc (.cells #[.int .i64 1, .int .i64 0, .int .i64 0, .int .i64 0, .int .i64 0, .int .i64 0, .int .i64 0, .int .i64 0] 3)) w.heap.size 8 (lf 0) :=
    ⟨_, Has.new w 3 _, fun j hj => by
      match j, hj with
      | 0, _ => rfl
      | 1, _ => rfl
      | 2, _ => rfl
      | 3, _ => rfl
      | 4, _ => rfl
      | 5, _ => rfl
      | 6, _ => rfl
      | 7, _ => rfl⟩
  have Q := (Below.refl w.heap.size w).alloc (Nat.le_refl _) (.cells #[.int .i64 1, .int .i64 0, .int .i64 0, .int .i64 0, .int .i64 0, .int .i64 0, .int .i64 0, .int .i64 0] 3)
  have RN : (w.alloc (.cells #[.int .i64 1, .int .i64 0, .int .i64 0, .int .i64 0, .int .i64 0, .int .i64 0, .int .i64 0, .int .i64 0] 3)).ownsRow w.heap.size 3 1 (.slice none 0 0) 0 (rowI rcN 0) := World.ownsRow_nil _ _ 3 1
  go_enter Tryd.func16, Tryd.ntmps16
  go_wp2_with fail
  obtain ⟨W0, hW0⟩ : ∃ W0, w.alloc (.cells #[.int .i64 1, .int .i64 0, .int .i64 0, .int .i64 0, .int .i64 0, .int .i64 0, .int .i64 0, .int .i64 0] 3) = W0 := ⟨_, rfl⟩
  rw [hW0] at R0 Q RN ⊢
  clear hW0
  go_loopw [3, 4, 5] (fun vr vo i wr => ∃ t : Nat, t ≤ 168 ∧ i = .int .i64 (t : Int) ∧ (∃ gr cr : Nat, vr = .slice (some ⟨gr, 0, none⟩) 8 cr ∧ 8 ≤ cr ∧ RowAt wr gr 8 (lf t) ∧ vo.ownBlock ≠ some gr ∧ w.heap.size ≤ gr) ∧ wr.ownsRow w.heap.size 3 1 vo t (rowI rcN t) ∧ Below w.heap.size w wr) (fun _ _ i _ => 168 - (intOf i).toNat)
  case atStart => exact ⟨0, by omega, rfl, ⟨_, _, rfl, by omega, R0, (fun e => by cases e), Nat.le_refl _⟩, RN, Q⟩
  case round =>
    clear R0 RN Q
    obtain ⟨t, ht, rfl, ⟨gr, cr, rfl, hcr, R, hne, hgr⟩, hown, Q⟩ := hrel
    by_cases hlt : t < 168
    · have htI : (t : Int) < 168 := by omega
      have ht0 : (0 : Int) ≤ (t : Int) := by omega
      obtain ⟨o4, cap4, rfl⟩ := row_form hown
      have HS := Lib.hid (rowI_succ rcN t)
      have kr : wr.cell? ⟨gr, 0, none⟩ = some (.int .i64 ((rcN t : Nat) : Int)) := R.cellsAt 0 (by omega)
      generalize rcN t = b at *
      have HR := Lib.hid R
      have HRow := Lib.hid hown
      have HQ := Lib.hid Q
      have HNE := Lib.hid (And.intro hne hgr)
      have HLT := Lib.hid hlt
      have hcrI : (8 : Int) ≤ (cr : Int) := by omega
      have hgl := R.lt
      obtain ⟨i0, hi, hz0', hz1, hz2⟩ := info_parts infoI
      clear R hown Q hne hgr hlt ht hcr
      go_wp2_with (at_builtin; first | (refine wpList_append_own_at _ rfl _ _ 39 rfl w.heap.size 3 i0 (.int .i64 0) 1 8 Tryd.underlying39 hi hz0' hz1 hz2 rfl (by decide) _ _ _ rfl (World.ownsRow_lit (base := w.heap.size) w3 #[.int .i64 0] 1 (Nat.le_trans HQ.out.size (Nat.le_trans (by simp) hgrow.size)) (by unfold maxLen; omega) rfl) ⟨gr, 0, none⟩ 8 cr (rowI (lf t) 8) rfl (rowI_length _ _) (cells_news (((HR.out.alloc _).kept hgrow (fun e => HNE.out.1 e.symm)).alloc _).cellsAt) (rowI_one _ _) (by decide) (by omega) (Nat.le_trans HQ.out.size (Nat.le_trans (Nat.le_trans (by simp) hgrow.size) (by simp))) ?_; intro vn w4 hownN hgrowN _ hblkN) | (refine wpList_append_own_at _ rfl _ _ 39 rfl w.heap.size 3 i0 (.int .i64 0) 1 8 Tryd.underlying39 hi hz0' hz1 hz2 rfl (by decide) _ _ _ rfl (HRow.out.alloc _) ⟨wr.heap.size, 0, none⟩ 1 1 [.int .i64 (b : Int)] rfl rfl (cell_one _ _ _) (by simp [Value.oneCell']) (by unfold maxLen; have := HLT.out; omega) (by have := HLT.out; omega) (by have := HQ.out.size; simp; omega) ?_; intro vo w3 hown hgrow _ hblk))
      have hgrow : (wr.alloc (.cells #[.int .i64 (b : Int)] 3)).grownBy w3 (Value.slice o4 t cap4).ownBlock := hgrow
      have hblk : vo.ownBlock = (Value.slice o4 t cap4).ownBlock ∨ vo.ownBlock = some (wr.alloc (.cells #[.int .i64 (b : Int)] 3)).heap.size := hblk
      have hgrowN : (w3.alloc (.cells #[.int .i64 0] 3)).grownBy w4 (some w3.heap.size) := hgrowN
      have hblkN : vn.ownBlock = some w3.heap.size ∨ vn.ownBlock = some (w3.alloc (.cells #[.int .i64 0] 3)).heap.size := hblkN
      rw [show (#[Value.int .i64 0] : Array Value).toList ++ rowI (lf t) 8 = rowI (n0 t) 9 from n0_row t, show 1 + 8 = 9 from rfl] at hownN
      obtain ⟨gn, cn, rfl, hgn, hcn, hgnl, hgno, hRn⟩ := owns_row (by omega) hownN
      have RR := Lib.hid (hRn (n0 t) rfl)
      have hgn2 : w3.heap.size ≤ gn := by
        rcases hblkN with h | h
        · rw [hgno] at h; have := Option.some.inj h; omega
        · rw [hgno] at h; have := Option.some.inj h; simp at this; omega
      have hv3 := fun k e => (hown.lt k e).2
      have Q3 := (HQ.out.alloc HQ.out.size (.cells #[.int .i64 (b : Int)] 3)).grown hgrow (by have := HQ.out.size; simp; omega) (fun j e => ((HRow.out.alloc (.cells #[.int .i64 (b : Int)] 3)).lt j e).1)
      have QQ := Lib.hid ((Q3.alloc Q3.size (.cells #[.int .i64 0] 3)).grown hgrowN (by have := Q3.size; simp; omega) (fun j e => by have := Option.some.inj e; have := Q3.size; omega))
      have hnoo : vo.ownBlock ≠ some w3.heap.size := fun e => by have := hv3 _ e; omega
      have RO := Lib.hid ((hown.alloc (.cells #[.int .i64 0] 3)).kept hgrowN (.inr hnoo))
      have HNO := Lib.hid (show vo.ownBlock ≠ some gn from fun e => by have := hv3 _ e; omega)
      have HGN := Lib.hid (And.intro hgn (show 9 ≤ cn from hcn))
      have hcnI : (9 : Int) ≤ (cn : Int) := by omega
      rw [← HS.out] at RO
      clear hi hz0' hz1 hz2 hRn hownN hgrowN hblkN hgrow hblk hown hgn2 hv3 Q3 hnoo kr HRow HR HQ HS hgn hcn hgno hgnl
      have a0 := n0_le t 0
      have a80 := n0_le t 8
      have e0 : ((n0 t 0 : Nat) : Int) + ((n0 t 8 : Nat) : Int) = ((n0 t 0 + n0 t 8 : Nat) : Int) := by omega
      have m0 : ((n0 t 0 + n0 t 8 : Nat) : Int).tmod 2 = (((n0 t 0 + n0 t 8) % 2 : Nat) : Int) := by rw [Int.tmod_eq_emod_of_nonneg (by omega)]; omega
      have k0 : ∀ X : Ext w4, X.w.cell? ⟨gn, 0, none⟩ = some (.int .i64 ((n0 t 0 : Nat) : Int)) := fun X => ((RR.out.later X.below).cellsAt 0 (by omega))
      have k8 : ∀ X : Ext w4, X.w.cell? ⟨gn, 8, none⟩ = some (.int .i64 ((n0 t 8 : Nat) : Int)) := fun X => ((RR.out.later X.below).cellsAt 8 (by omega))
      have s20 : ((n0 t 0 + n0 t 8 : Nat) : Int) ≤ 2 := by omega
      generalize hv0 : (n0 t 0 + n0 t 8) % 2 = v at *
      have HV := Lib.hid hv0
      clear hv0
      generalize hs0 : n0 t 0 + n0 t 8 = s at *
      have HSV := Lib.hid hs0
      clear hs0
      generalize hx : n0 t 0 = x at k0 a0 e0
      generalize hy : n0 t 8 = y at k8 a80 e0
      clear hx hy
      have xI : (x : Int) ≤ 1 := by omega
      have yI : (y : Int) ≤ 1 := by omega
      go_wp2_with fail
      refine wp_region_mix (C := Grows w4) [some true, some true, some true, some true, some true, some true, some true, some true, some true, some true, none] hmx (by kernel_rfl) (by kernel_rfl) (grows_refl w4) ?_
      simp only [headOf, tailOf]
      repeat (go_big_quiet_step (fail))
      refine wpQuiet_nil ?_
      rintro _ ⟨X, rfl⟩
      have kc := k0 X
      have kz := (RR.out.later X.below).frozen 0
      replace RR := Lib.hid ((RR.out.later X.below).set (B := n1 t) 0 v (fun j _ => by rw [← HV.out, ← HSV.out]; rfl))
      replace QQ := Lib.hid ((QQ.out.trans (X.below.mono QQ.out.size)).setCell (p := ⟨gn, 0, none⟩) HGN.out.1 (.int .i64 ((v : Nat) : Int)))
      replace RO := Lib.hid ((owns_below RO.out X.below).kept (grown_of_set (X.w) gn 0 (.int .i64 ((v : Nat) : Int))) (.inr HNO.out))
      clear k0 k8
      go_wp2
      rw [calmPost_normal]
      obtain ⟨w5, hw5⟩ : ∃ w5, X.w.setCell ⟨gn, 0, none⟩ (.int .i64 ((v : Nat) : Int)) = w5 := ⟨_, rfl⟩
      rw [hw5] at RR QQ RO ⊢
      clear hw5 kc kz HV HSV a0 a80 e0 m0 s20 xI yI X
      have a4 := n1_le t 4
      have a84 := n1_le t 8
      have e4 : ((n1 t 4 : Nat) : Int) + ((n1 t 8 : Nat) : Int) = ((n1 t 4 + n1 t 8 : Nat) : Int) := by omega
      have m4 : ((n1 t 4 + n1 t 8 : Nat) : Int).tmod 2 = (((n1 t 4 + n1 t 8) % 2 : Nat) : Int) := by rw [Int.tmod_eq_emod_of_nonneg (by omega)]; omega
      have k4 : ∀ X : Ext w5, X.w.cell? ⟨gn, 4, none⟩ = some (.int .i64 ((n1 t 4 : Nat) : Int)) := fun X => ((RR.out.later X.below).cellsAt 4 (by omega))
      have k8 : ∀ X : Ext w5, X.w.cell? ⟨gn, 8, none⟩ = some (.int .i64 ((n1 t 8 : Nat) : Int)) := fun X => ((RR.out.later X.below).cellsAt 8 (by omega))
      have s24 : ((n1 t 4 + n1 t 8 : Nat) : Int) ≤ 2 := by omega
      generalize hv4 : (n1 t 4 + n1 t 8) % 2 = v at *
      have HV := Lib.hid hv4
      clear hv4
      generalize hs4 : n1 t 4 + n1 t 8 = s at *
      have HSV := Lib.hid hs4
      clear hs4
      generalize hx : n1 t 4 = x at k4 a4 e4
      generalize hy : n1 t 8 = y at k8 a84 e4
      clear hx hy
      have xI : (x : Int) ≤ 1 := by omega
      have yI : (y : Int) ≤ 1 := by omega
      go_wp2_with fail
      refine wp_region_mix (C := Grows w5) [some true, some true, some true, some true, some true, some true, some true, some true, some true, some true, none] hmx (by kernel_rfl) (by kernel_rfl) (grows_refl w5) ?_
      simp only [headOf, tailOf]
      repeat (go_big_quiet_step (fail))
      refine wpQuiet_nil ?_
      rintro _ ⟨X, rfl⟩
      have kc := k4 X
      have kz := (RR.out.later X.below).frozen 4
      replace RR := Lib.hid ((RR.out.later X.below).set (B := n2 t) 4 v (fun j _ => by rw [← HV.out, ← HSV.out]; rfl))
      replace QQ := Lib.hid ((QQ.out.trans (X.below.mono QQ.out.size)).setCell (p := ⟨gn, 4, none⟩) HGN.out.1 (.int .i64 ((v : Nat) : Int)))
      replace RO := Lib.hid ((owns_below RO.out X.below).kept (grown_of_set (X.w) gn 4 (.int .i64 ((v : Nat) : Int))) (.inr HNO.out))
      clear k4 k8
      go_wp2
      rw [calmPost_normal]
      obtain ⟨w6, hw6⟩ : ∃ w6, X.w.setCell ⟨gn, 4, none⟩ (.int .i64 ((v : Nat) : Int)) = w6 := ⟨_, rfl⟩
      rw [hw6] at RR QQ RO ⊢
      clear hw6 kc kz HV HSV a4 a84 e4 m4 s24 xI yI X
      have a5 := n2_le t 5
      have a85 := n2_le t 8
      have e5 : ((n2 t 5 : Nat) : Int) + ((n2 t 8 : Nat) : Int) = ((n2 t 5 + n2 t 8 : Nat) : Int) := by omega
      have m5 : ((n2 t 5 + n2 t 8 : Nat) : Int).tmod 2 = (((n2 t 5 + n2 t 8) % 2 : Nat) : Int) := by rw [Int.tmod_eq_emod_of_nonneg (by omega)]; omega
      have k5 : ∀ X : Ext w6, X.w.cell? ⟨gn, 5, none⟩ = some (.int .i64 ((n2 t 5 : Nat) : Int)) := fun X => ((RR.out.later X.below).cellsAt 5 (by omega))
      have k8 : ∀ X : Ext w6, X.w.cell? ⟨gn, 8, none⟩ = some (.int .i64 ((n2 t 8 : Nat) : Int)) := fun X => ((RR.out.later X.below).cellsAt 8 (by omega))
      have s25 : ((n2 t 5 + n2 t 8 : Nat) : Int) ≤ 2 := by omega
      generalize hv5 : (n2 t 5 + n2 t 8) % 2 = v at *
      have HV := Lib.hid hv5
      clear hv5
      generalize hs5 : n2 t 5 + n2 t 8 = s at *
      have HSV := Lib.hid hs5
      clear hs5
      generalize hx : n2 t 5 = x at k5 a5 e5
      generalize hy : n2 t 8 = y at k8 a85 e5
      clear hx hy
      have xI : (x : Int) ≤ 1 := by omega
      have yI : (y : Int) ≤ 1 := by omega
      go_wp2_with fail
      refine wp_region_mix (C := Grows w6) [some true, some true, some true, some true, some true, some true, some true, some true, some true, some true, none] hmx (by kernel_rfl) (by kernel_rfl) (grows_refl w6) ?_
      simp only [headOf, tailOf]
      repeat (go_big_quiet_step (fail))
      refine wpQuiet_nil ?_
      rintro _ ⟨X, rfl⟩
      have kc := k5 X
      have kz := (RR.out.later X.below).frozen 5
      replace RR := Lib.hid ((RR.out.later X.below).set (B := n3 t) 5 v (fun j _ => by rw [← HV.out, ← HSV.out]; rfl))
      replace QQ := Lib.hid ((QQ.out.trans (X.below.mono QQ.out.size)).setCell (p := ⟨gn, 5, none⟩) HGN.out.1 (.int .i64 ((v : Nat) : Int)))
      replace RO := Lib.hid ((owns_below RO.out X.below).kept (grown_of_set (X.w) gn 5 (.int .i64 ((v : Nat) : Int))) (.inr HNO.out))
      clear k5 k8
      go_wp2
      rw [calmPost_normal]
      obtain ⟨w7, hw7⟩ : ∃ w7, X.w.setCell ⟨gn, 5, none⟩ (.int .i64 ((v : Nat) : Int)) = w7 := ⟨_, rfl⟩
      rw [hw7] at RR QQ RO ⊢
      clear hw7 kc kz HV HSV a5 a85 e5 m5 s25 xI yI X
      have a6 := n3_le t 6
      have a86 := n3_le t 8
      have e6 : ((n3 t 6 : Nat) : Int) + ((n3 t 8 : Nat) : Int) = ((n3 t 6 + n3 t 8 : Nat) : Int) := by omega
      have m6 : ((n3 t 6 + n3 t 8 : Nat) : Int).tmod 2 = (((n3 t 6 + n3 t 8) % 2 : Nat) : Int) := by rw [Int.tmod_eq_emod_of_nonneg (by omega)]; omega
      have k6 : ∀ X : Ext w7, X.w.cell? ⟨gn, 6, none⟩ = some (.int .i64 ((n3 t 6 : Nat) : Int)) := fun X => ((RR.out.later X.below).cellsAt 6 (by omega))
      have k8 : ∀ X : Ext w7, X.w.cell? ⟨gn, 8, none⟩ = some (.int .i64 ((n3 t 8 : Nat) : Int)) := fun X => ((RR.out.later X.below).cellsAt 8 (by omega))
      have s26 : ((n3 t 6 + n3 t 8 : Nat) : Int) ≤ 2 := by omega
      generalize hv6 : (n3 t 6 + n3 t 8) % 2 = v at *
      have HV := Lib.hid hv6
      clear hv6
      generalize hs6 : n3 t 6 + n3 t 8 = s at *
      have HSV := Lib.hid hs6
      clear hs6
      generalize hx : n3 t 6 = x at k6 a6 e6
      generalize hy : n3 t 8 = y at k8 a86 e6
      clear hx hy
      have xI : (x : Int) ≤ 1 := by omega
      have yI : (y : Int) ≤ 1 := by omega
      go_wp2_with fail
      refine wp_region_mix (C := Grows w7) [some true, some true, some true, some true, some true, some true, some true, some true, some true, some true, none] hmx (by kernel_rfl) (by kernel_rfl) (grows_refl w7) ?_
      simp only [headOf, tailOf]
      repeat (go_big_quiet_step (fail))
      refine wpQuiet_nil ?_
      rintro _ ⟨X, rfl⟩
      have kc := k6 X
      have kz := (RR.out.later X.below).frozen 6
      replace RR := Lib.hid ((RR.out.later X.below).set (B := n4 t) 6 v (fun j _ => by rw [← HV.out, ← HSV.out]; rfl))
      replace QQ := Lib.hid ((QQ.out.trans (X.below.mono QQ.out.size)).setCell (p := ⟨gn, 6, none⟩) HGN.out.1 (.int .i64 ((v : Nat) : Int)))
      replace RO := Lib.hid ((owns_below RO.out X.below).kept (grown_of_set (X.w) gn 6 (.int .i64 ((v : Nat) : Int))) (.inr HNO.out))
      clear k6 k8
      go_wp2
      rw [calmPost_normal]
      obtain ⟨w8, hw8⟩ : ∃ w8, X.w.setCell ⟨gn, 6, none⟩ (.int .i64 ((v : Nat) : Int)) = w8 := ⟨_, rfl⟩
      rw [hw8] at RR QQ RO ⊢
      clear hw8 kc kz HV HSV a6 a86 e6 m6 s26 xI yI X
      have RF := Lib.hid ((RR.out.cut (m := 8) (by omega)).congr (B := lf (t + 1)) (fun j hj => n4_lf t j hj))
      go_wp2_with fail
      go_roundw
      case rel => exact ⟨t + 1, by have := HLT.out; omega, by simp, ⟨_, _, rfl, by have := HGN.out.2; omega, RF.out, HNO.out, HGN.out.1⟩, RO.out, QQ.out⟩
      case measure => simp [intOf]; omega
    · obtain rfl : t = 168 := by omega
      obtain ⟨h, c, rfl, hb, _, _, _, hR⟩ := owns_row (by omega) hown
      have HR := Lib.hid (hR rcN rfl)
      have HQ := Lib.hid Q
      have HB := Lib.hid hb
      clear R hown Q hR hne hgr
      go_wp2_with fail
      go_ret
      exact ⟨_, _, rfl, HB.out, HR.out, HQ.out⟩
end Go.Proofs.YtobdjakflknlcaaDoor
