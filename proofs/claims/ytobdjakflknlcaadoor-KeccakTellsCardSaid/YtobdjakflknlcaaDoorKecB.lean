/- The iterator over the places of lanes, and a lane turned. Conditions: none. -/
import Derived.Test.YtobdjakflknlcaaDoorKecA
namespace Go.Proofs.YtobdjakflknlcaaDoor
open Go Go.RowKit Go.Shelf
attribute [local go_sem] Oper.semAt_some

theorem rot_ret (x k : Nat) (hx : x < 18446744073709551616) (hk : k < 4611686018427387904) : Ret Tryd.prog 28 #[.int .u64 (x : Int), .int .i64 (k : Int)] (.int .u64 ((rotl x (k % 64) : Nat) : Int)) := by
  have hs : bits .and .u64 (k : Int) 63 = ((k % 64 : Nat) : Int) := by
    rw [show (63 : Int) = ((63 : Nat) : Int) from rfl, bits_and_u64_nat k 63 (by omega) (by omega), show (63 : Nat) = 2 ^ 6 - 1 from rfl, Nat.and_two_pow_sub_one_eq_mod]
  have hlt : k % 64 < 64 := Nat.mod_lt _ (by omega)
  unfold rotl
  generalize k % 64 = s at *
  refine rot_walk (x : Int) (k : Int) (s : Int) ((x * 2 ^ s % 2 ^ 64 : Nat) : Int) ((x / 2 ^ (64 - s) : Nat) : Int) _ hs ⟨by omega, by omega⟩ ⟨by omega, by omega⟩ ?_ ?_ ?_
  · rw [IntKind.wrap_u64, Int.toNat_natCast]
    rw [Int.natCast_emod, Int.natCast_mul, Int.natCast_pow]
    rfl
  · rw [show (64 - (s : Int)).toNat = 64 - s by omega]
    rw [Int.natCast_ediv, Int.natCast_pow]
    rfl
  · exact bits_or_u64_nat _ _ (Nat.mod_lt _ (by decide)) (Nat.lt_of_le_of_lt (Nat.div_le_self _ _) hx)

/-- A place, as a value. -/
def plV (k : Nat) : Value := .agg #[.int .u64 ((k % 5 : Nat) : Int), .int .u64 ((k / 5 : Nat) : Int)]

set_option maxRecDepth 100000 in
set_option maxHeartbeats 2000000 in
theorem places_seq (n : Nat) (hn : 1 ≤ n) (Kp : World → World → Prop) (w : World) :
    SeqN Fence.wide n Tryd.prog 25 #[] (fun k => #[plV k]) Kp 25 w := by
  intro l J Jx W hW _ _ hY h0
  refine callsIn_of_wp Tryd.func25 rfl trivial ?_ rfl
  simp only [Tryd.ntmps25, List.size_toArray, List.length_cons, List.length_nil, Nat.reduceAdd, Nat.reduceSub, Array.replicate_succ, Array.replicate_zero, List.push_toArray, List.append_toArray, List.nil_append, List.cons_append]
  gi_wp2
  gi_loopw [4] (fun i wr => ∃ y : Nat, y ≤ 5 ∧ i = .int .u64 y ∧ J (5 * y) wr) (fun i _ => 5 - (intOf i).toNat)
  case atStart => exact ⟨0, Nat.zero_le _, rfl, h0⟩
  case round =>
    obtain ⟨y, hy, rfl, hJs⟩ := hrel
    by_cases hlt : y < 5
    · have hyI : (y : Int) < 5 := by omega
      gi_wp2
      gi_loopw [7] (fun i wr => ∃ x : Nat, x ≤ 5 ∧ i = .int .u64 x ∧ J (5 * y + x) wr) (fun i _ => 5 - (intOf i).toNat)
      case atStart => exact ⟨0, Nat.zero_le _, rfl, hJs⟩
      case round =>
        clear hJs
        obtain ⟨x, hx, rfl, hJs⟩ := hrel
        by_cases hlx : x < 5
        · have hxI : (x : Int) < 5 := by omega
          obtain ⟨fn, tmps, assign, body, hy, hR⟩ := hY (5 * y + x) _ (by omega) hJs
          have hp : plV (5 * y + x) = .agg #[.int .u64 (x : Int), .int .u64 (y : Int)] := by
            unfold plV
            rw [show (5 * y + x) % 5 = x by omega, show (5 * y + x) / 5 = y by omega]
          rw [hp] at hy
          clear hp
          gi_wp2
          refine hR.mono ?_
          rintro e W3 (⟨rfl, hJ3, _⟩ | ⟨rfl, hJx3⟩)
          · gi_wp2
            go_roundw
            case rel => exact ⟨x + 1, by omega, by simp, hJ3⟩
            case measure => simp [intOf]; omega
          · gi_wp2
            refine bodyPost_ret (results_none rfl _ _ _) rfl ?_
            exact ⟨⟨_, rfl⟩, .inr ⟨5 * y + x, by omega, hJx3⟩⟩
        · obtain rfl : x = 5 := by omega
          gi_wp2
          go_roundw
          case rel => exact ⟨y + 1, by omega, by simp, hJs⟩
          case measure => simp [intOf]; omega
    · obtain rfl : y = 5 := by omega
      gi_wp2
      go_end0
      exact ⟨⟨_, rfl⟩, .inl hJs⟩
end Go.Proofs.YtobdjakflknlcaaDoor
