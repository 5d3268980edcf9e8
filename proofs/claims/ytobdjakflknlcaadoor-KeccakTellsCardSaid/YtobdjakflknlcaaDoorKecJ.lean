/- A block's bytes added to lanes, and the bytes that a sum takes of them. -/
import Derived.Test.YtobdjakflknlcaaDoorKecI
namespace Go.Proofs.YtobdjakflknlcaaDoor
open Go Go.RowKit Go.Shelf
attribute [local go_sem] Oper.semAt_some Grows wide_fn field0

/-- Lanes to which k bytes are added. -/
def absN (A D : Nat → Nat) : Nat → Nat → Nat
  | 0, j => A j
  | k + 1, j => if j = k / 8 then absN A D k j ^^^ (D k * 2 ^ (8 * (k % 8))) else absN A D k j
theorem sh_lt (d k : Nat) (hd : d < 256) : d * 2 ^ (8 * (k % 8)) < 2 ^ 64 := by
  have h : 8 * (k % 8) ≤ 56 := by omega
  calc d * 2 ^ (8 * (k % 8)) ≤ d * 2 ^ 56 := Nat.mul_le_mul_left _ (Nat.pow_le_pow_right (by omega) h)
    _ < 2 ^ 64 := by omega
theorem absN_lt (A D : Nat → Nat) (hA : ∀ j, A j < 2 ^ 64) (hD : ∀ j, D j < 256) : ∀ k j, absN A D k j < 2 ^ 64
  | 0, j => hA j
  | k + 1, j => by
    unfold absN
    split
    · exact Nat.xor_lt_two_pow (absN_lt A D hA hD k j) (sh_lt _ _ (hD k))
    · exact absN_lt A D hA hD k j

set_option maxRecDepth 100000 in
set_option maxHeartbeats 4000000 in
theorem absorb_calls (B g o : Nat) (A D : Nat → Nat) (hA : ∀ j, A j < 2 ^ 64) (hD : ∀ j, D j < 256) (hg : g ≠ B) (w : World) (hB : Has w B 24 (luC 25 A)) (hc : ∀ j, j < 136 → w.cell? ⟨g, o + j, none⟩ = some (.int .u8 ((D j : Nat) : Int))) :
    Calls Tryd.prog 22 #[.pointer (some ⟨B, 0, none⟩), .slice (some ⟨g, o, none⟩) 136 136] w fun e w' => (∃ v, e = .returned v) ∧ Has w' B 24 (luC 25 (absN A D 136)) ∧ w.grownBy w' (some B) := by
  have hgl := lt_of_cell (hc 0 (by omega))
  have hmx : Tryd.prog.follows .mixedOrders = true := by kernel_rfl
  have G := grown_of_below (Below.refl w.heap.size w) (some B)
  go_enter Tryd.func22, Tryd.ntmps22
  go_wp2
  go_loopw [8] (fun i wr => ∃ k : Nat, k ≤ 136 ∧ i = .int .i64 (k : Int) ∧ Has wr B 24 (luC 25 (absN A D k)) ∧ w.grownBy wr (some B)) (fun i _ => 136 - (intOf i).toNat)
  case atStart => exact ⟨0, by omega, rfl, hB, G⟩
  case round =>
    clear G
    obtain ⟨k, hk, rfl, LA, G⟩ := hrel
    by_cases hlt : k < 136
    · have hkI : (k : Int) < 136 := by omega
      have kd : wr.cell? ⟨g, o + k, none⟩ = some (.int .u8 ((D k : Nat) : Int)) := (World.cell?_of_block (w := w) (G.block g hgl (fun e => hg (Option.some.inj e)))).trans (hc k hlt)
      have e1 : (k : Int).tdiv 8 = ((k / 8 : Nat) : Int) := by rw [Int.tdiv_eq_ediv_of_nonneg (by omega)]; omega
      have e2 : (k : Int).tmod 8 = ((k % 8 : Nat) : Int) := by rw [Int.tmod_eq_emod_of_nonneg (by omega)]; omega
      have e3 : ((k % 8 : Nat) : Int) * 8 = ((8 * (k % 8) : Nat) : Int) := by omega
      have hw : IntKind.u64.wrap ((D k : Int) * 2 ^ (8 * (k % 8))) = ((D k * 2 ^ (8 * (k % 8)) : Nat) : Int) := by
        have := sh_lt (D k) k (hD k)
        rw [IntKind.wrap_u64, show ((D k : Int) * 2 ^ (8 * (k % 8))) = ((D k * 2 ^ (8 * (k % 8)) : Nat) : Int) by rw [Int.natCast_mul, Int.natCast_pow]; rfl]
        omega
      have hx := xor_i (absN A D k (k / 8)) (D k * 2 ^ (8 * (k % 8))) (absN_lt A D hA hD k _) (sh_lt _ _ (hD k))
      have hS' : ∀ i, i < 25 → absN A D (k + 1) i = if i = k / 8 then absN A D k (k / 8) ^^^ (D k * 2 ^ (8 * (k % 8))) else absN A D k i := fun i _ => by
        show (if i = k / 8 then absN A D k i ^^^ (D k * 2 ^ (8 * (k % 8))) else absN A D k i) = _
        by_cases e : i = k / 8
        · rw [if_pos e, if_pos e, e]
        · rw [if_neg e, if_neg e]
      have h8 : k / 8 < 25 := by omega
      have hs64 : 8 * (k % 8) < 64 := by omega
      have hd8 := hD k
      have kA : ∀ x : Ext wr, x.w.cell? ⟨B, k / 8, none⟩ = some (.int .u64 ((absN A D k (k / 8) : Nat) : Int)) := fun x => (LA.later x.below).cell _ _ (luC_get 25 _ _ h8)
      have kz : ∀ x : Ext wr, x.w.frozen? ⟨B, k / 8, none⟩ = false := fun x => (LA.later x.below).frozen _
      have HLT := Lib.hid hlt
      have HA := Lib.hid LA
      have HG := Lib.hid G
      clear hlt hk LA G hc hB
      generalize absN A D k (k / 8) ^^^ (D k * 2 ^ (8 * (k % 8))) = r at *
      generalize absN A D k (k / 8) = c at *
      generalize D k * 2 ^ (8 * (k % 8)) = v at *
      generalize D k = d at *
      generalize 8 * (k % 8) = s at *
      generalize k % 8 = k8 at *
      generalize k / 8 = i8 at *
      have hd8I : (d : Int) < 256 := by omega
      have hsI : (s : Int) < 64 := by omega
      have h8I : (i8 : Int) < 25 := by omega
      have HS' := Lib.hid hS'
      clear hS' h8 hs64 hd8 hA hD
      go_wp2_with fail
      refine wp_region_mix (C := Grows wr) [some true, some true, some true, some true, some true, some true, some true, some true, some true, some true, some true, some true, some true, some true, some true, none] hmx (by kernel_rfl) (by kernel_rfl) (grows_refl wr) ?_
      simp only [headOf, tailOf]
      repeat (go_big_quiet_step (fail))
      refine wpQuiet_nil ?_
      rintro _ ⟨x, rfl⟩
      have N1 := (HA.out.later x.below).set i8 (.int .u64 ((r : Nat) : Int))
      rw [luC_set 25 _ (absN A D (k + 1)) i8 r HS'.out] at N1
      have H1 := Lib.hid N1
      have H2 := Lib.hid (grown_set (grown_then_below HG.out x.below) (p := ⟨B, i8, none⟩) (.inl rfl) (.int .u64 ((r : Nat) : Int)))
      have kA' := kA x
      have kz' := kz x
      clear kA kz kd N1
      go_wp2
      rw [calmPost_normal]
      go_wp2
      go_roundw
      case rel => exact ⟨k + 1, by have := HLT.out; omega, by simp, H1.out, H2.out⟩
      case measure => simp [intOf]; omega
    · obtain rfl : k = 136 := by omega
      have H1 := Lib.hid LA
      have H2 := Lib.hid G
      clear LA G hk hlt hc hB
      go_wp2
      go_end0
      exact ⟨⟨_, rfl⟩, H1.out, H2.out⟩
end Go.Proofs.YtobdjakflknlcaaDoor
