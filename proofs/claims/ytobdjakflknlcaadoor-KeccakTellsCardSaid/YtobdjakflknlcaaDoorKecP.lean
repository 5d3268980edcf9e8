/- The laws' first calls: all of them answer as they should. -/
import Derived.Test.YtobdjakflknlcaaDoorKecO
namespace Go.Proofs.YtobdjakflknlcaaDoor
open Go Go.RowKit Go.Shelf
attribute [local go_sem] Oper.semAt_some Grows wide_fn field0

def U64 (x : Int) : Prop := 0 ≤ x ∧ x < 18446744073709551616
def I64 (x : Int) : Prop := -9223372036854775808 ≤ x ∧ x < 9223372036854775808
theorem index25 (A : Nat → Nat) (k : Nat) (hk : k < 25) (W : World) : (Instr.index 24 (.agg (luC 25 A)) (.int .i64 (k : Int))).run Tryd.prog W = .ok (.int .u64 ((A k : Nat) : Int)) W := by
  have u := Tryd.underlying24
  have a3 := Tryd.isAgg22
  have z3 := Tryd.sizeOf22
  have hg := luC_get 25 A k hk
  have hkI : (k : Int) < 25 := by omega
  unfold Instr.index
  simp only [Sem.run_bind, run_underlying u, Result.andThen_ok]
  simp [go_sem, part, asIntOf, a3, z3, hkI, hg]

set_option maxRecDepth 100000 in
set_option maxHeartbeats 4000000 in
theorem awake_walk (a b p : ByteArray) (P : Nat → Nat) (ha : a.size = 32) (hb : b.size = 32) (hp : p.size = 136) (ha6 : a.extract 0 6 = ⟨#[197, 210, 70, 1, 134, 247]⟩) (hb6 : b.extract 0 6 = ⟨#[78, 3, 101, 122, 234, 69]⟩) (hp2 : p.extract 0 2 = ⟨#[120, 1]⟩) (hpl : ∀ h : 135 < p.size, ((p[135]'h).toNat : Int) = 128) (hP : P 0 = 0xf1258f7940e1dde7)
    (h1 : RetT Tryd.prog 8 #[.string ⟨#[]⟩] (.tuple #[.string a, .int .i64 0])) (h2 : RetT Tryd.prog 8 #[.string ⟨#[97, 98, 99]⟩] (.tuple #[.string b, .int .i64 0])) (h3 : Ret Tryd.prog 10 #[.string ⟨#[120]⟩] (.string p))
    (h4 : RetT Tryd.prog 5 #[.agg #[.int .u64 0, .int .u64 0, .int .u64 0, .int .u64 0, .int .u64 0, .int .u64 0, .int .u64 0, .int .u64 0, .int .u64 0, .int .u64 0, .int .u64 0, .int .u64 0, .int .u64 0, .int .u64 0, .int .u64 0, .int .u64 0, .int .u64 0, .int .u64 0, .int .u64 0, .int .u64 0, .int .u64 0, .int .u64 0, .int .u64 0, .int .u64 0, .int .u64 0]] (.agg (luC 25 P))) : RetT Tryd.prog 4 #[] (.bool true) := by
  intro w HT
  have H1 := Lib.hid h1
  have H2 := Lib.hid h2
  have H3 := Lib.hid h3
  have H4 := Lib.hid h4
  clear h1 h2 h3 h4
  have haI : (a.size : Int) = 32 := by omega
  have hbI : (b.size : Int) = 32 := by omega
  have hpI : (p.size : Int) = 136 := by omega
  go_enter Tryd.func4, Tryd.ntmps4
  go_wp2_with fail
  refine (H1.out _ HT).mono ?_
  rintro e w1 ⟨rfl, q1⟩
  have HT := HT.later q1
  go_wp2_with fail
  refine (H2.out _ HT).mono ?_
  rintro e w2 ⟨rfl, q2⟩
  have HT := HT.later q2
  go_wp2_with fail
  refine (H3.out _).mono ?_
  rintro e w3 ⟨rfl, q3⟩
  have HT := HT.later q3
  have Q := q1.trans ((q2.mono q1.size).trans (q3.mono (Nat.le_trans q1.size q2.size)))
  clear q1 q2 q3
  go_wp2_with fail
  refine (H4.out _ HT).mono ?_
  rintro e w4 ⟨rfl, q4⟩
  have Q := Q.trans (q4.mono Q.size)
  clear q4
  have hi : (Instr.index 24 (.agg (luC 25 P)) (.int .i64 0)).run Tryd.prog w4 = .ok (.int .u64 ((P 0 : Nat) : Int)) w4 := index25 P 0 (by omega) w4
  have hPI : ((P 0 : Nat) : Int) = 17376452488221285863 := by rw [hP]; rfl
  go_wp2
  go_ret
  exact ⟨rfl, Q⟩

theorem luC_zero : luC 25 (fun _ => 0) = #[.int .u64 0, .int .u64 0, .int .u64 0, .int .u64 0, .int .u64 0, .int .u64 0, .int .u64 0, .int .u64 0, .int .u64 0, .int .u64 0, .int .u64 0, .int .u64 0, .int .u64 0, .int .u64 0, .int .u64 0, .int .u64 0, .int .u64 0, .int .u64 0, .int .u64 0, .int .u64 0, .int .u64 0, .int .u64 0, .int .u64 0, .int .u64 0, .int .u64 0] := rfl
theorem awake_ret : RetT Tryd.prog 4 #[] (.bool true) := by
  refine awake_walk (sumS nul) (sumS abc) (padS eks) (permN fun _ => 0) (sumS_size _) (sumS_size _) eks_size nul_head abc_head eks_head (fun h => ?_) zero_0 (sum_ret nul (by decide)) (sum_ret abc (by decide)) (pad_ret eks (by decide)) ?_
  · have hl := eks_last
    have h' : 135 < (padS eks).data.size := h
    rw [Array.getElem?_eq_getElem h'] at hl
    have e : (padS eks)[135]'h = (128 : UInt8) := Option.some.inj hl
    rw [e]
    rfl
  · have := permute_ret (fun _ => 0) (fun _ => by decide)
    rw [luC_zero] at this
    exact this
end Go.Proofs.YtobdjakflknlcaaDoor
