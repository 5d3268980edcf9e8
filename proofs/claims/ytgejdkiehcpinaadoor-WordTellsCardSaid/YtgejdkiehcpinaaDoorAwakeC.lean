/- What package word answers at the numbers that the laws' first calls name. -/
import Derived.Test.YtgejdkiehcpinaaDoorLawM
namespace Go.Proofs.YtgejdkiehcpinaaDoor
open Go Go.RowKit

/-- Four parts, as a value. -/
abbrev W4 (a b c d : Int) : Value := .agg #[.int .u64 a, .int .u64 b, .int .u64 c, .int .u64 d]

/-- A call that gives one value in every world of the class. -/
theorem Ret.of_any {P : Program} {f : FuncId} {args : Array Value} {v : Value} (h : ∀ w, Calls P f args w fun e w' => (e = .returned v) ∧ Below w.heap.size w w') : Ret P f args v := h

theorem hex_ret (a : Nat) (ha : W256 a) : Ret Tryd.prog 23 #[wv a] (.string ⟨(hexStr a).toArray⟩) := fun w => (hex_any a ha w).mono fun e w' ⟨⟨t, he, ht⟩, hb⟩ => ⟨by
  rw [he]
  have : t = ⟨(hexStr a).toArray⟩ := by
    cases t with
    | mk d =>
      have : d = (hexStr a).toArray := Array.toList_inj.1 (by simpa using ht)
      rw [this]
  rw [this], hb⟩

theorem wv_m1 : wv (ofN (-1)) = W4 18446744073709551615 18446744073709551615 18446744073709551615 18446744073709551615 := wv_of ⟨by decide, by decide, by decide, by decide⟩
theorem wv_1 : wv (ofN 1) = W4 1 0 0 0 := wv_of ⟨by decide, by decide, by decide, by decide⟩
theorem wv_2 : wv (ofN 2) = W4 2 0 0 0 := wv_of ⟨by decide, by decide, by decide, by decide⟩
theorem wv_256 : wv (ofN 256) = W4 256 0 0 0 := wv_of ⟨by decide, by decide, by decide, by decide⟩
theorem wv_1000 : wv (ofN 1000) = W4 1000 0 0 0 := wv_of ⟨by decide, by decide, by decide, by decide⟩
/-- 2^64 + 1. -/
def bigA : Nat := 18446744073709551617
theorem wv_bigA : wv bigA = W4 1 1 0 0 := wv_of ⟨by decide, by decide, by decide, by decide⟩
theorem bigA_lt : W256 bigA := by unfold W256 bigA; omega

theorem c_m1 : Ret Tryd.prog 11 #[.int .i64 (-1)] (W4 18446744073709551615 18446744073709551615 18446744073709551615 18446744073709551615) := by
  have h := of_ret (-1) (by unfold I64; omega)
  rwa [wv_m1] at h
theorem c_1 : Ret Tryd.prog 11 #[.int .i64 1] (W4 1 0 0 0) := by
  have h := of_ret 1 (by unfold I64; omega)
  rwa [wv_1] at h
theorem c_2 : Ret Tryd.prog 11 #[.int .i64 2] (W4 2 0 0 0) := by
  have h := of_ret 2 (by unfold I64; omega)
  rwa [wv_2] at h
theorem c_256 : Ret Tryd.prog 11 #[.int .i64 256] (W4 256 0 0 0) := by
  have h := of_ret 256 (by unfold I64; omega)
  rwa [wv_256] at h
theorem c_1000 : Ret Tryd.prog 11 #[.int .i64 1000] (W4 1000 0 0 0) := by
  have h := of_ret 1000 (by unfold I64; omega)
  rwa [wv_1000] at h
theorem c_int1000 : Ret Tryd.prog 19 #[W4 1000 0 0 0] (.tuple #[.int .i64 1000, .bool true]) := by
  have h := int_ret (ofN 1000) (ofN_lt _ (by unfold I64; omega))
  rw [wv_1000] at h
  exact h
theorem c_intm : Ret Tryd.prog 19 #[W4 18446744073709551615 18446744073709551615 18446744073709551615 18446744073709551615] (.tuple #[.int .i64 0, .bool false]) := by
  have h := int_ret (ofN (-1)) (ofN_lt _ (by unfold I64; omega))
  rw [wv_m1] at h
  exact h
theorem c_parse1 : Ret Tryd.prog 28 #[.string ⟨#[48, 120, 49, 48, 48, 48, 48, 48, 48, 48, 48, 48, 48, 48, 48, 48, 48, 48, 49]⟩] (.tuple #[W4 1 1 0 0, .int .i64 0]) := by
  have h := parse_ret ⟨#[48, 120, 49, 48, 48, 48, 48, 48, 48, 48, 48, 48, 48, 48, 48, 48, 48, 48, 49]⟩ (by decide)
  have e : parseV [48, 120, 49, 48, 48, 48, 48, 48, 48, 48, 48, 48, 48, 48, 48, 48, 48, 48, 49] = .tuple #[W4 1 1 0 0, .int .i64 0] := by kernel_rfl
  exact e ▸ h
theorem c_parse2 : Ret Tryd.prog 28 #[.string ⟨#[49, 56, 52, 52, 54, 55, 52, 52, 48, 55, 51, 55, 48, 57, 53, 53, 49, 54, 49, 55]⟩] (.tuple #[W4 1 1 0 0, .int .i64 0]) := by
  have h := parse_ret ⟨#[49, 56, 52, 52, 54, 55, 52, 52, 48, 55, 51, 55, 48, 57, 53, 53, 49, 54, 49, 55]⟩ (by decide)
  have e : parseV [49, 56, 52, 52, 54, 55, 52, 52, 48, 55, 51, 55, 48, 57, 53, 53, 49, 54, 49, 55] = .tuple #[W4 1 1 0 0, .int .i64 0] := by kernel_rfl
  exact e ▸ h
theorem c_parse3 : Ret Tryd.prog 28 #[.string ⟨#[48, 120, 48, 49]⟩] errV := by
  have h := parse_ret ⟨#[48, 120, 48, 49]⟩ (by decide)
  have e : parseV [48, 120, 48, 49] = errV := by kernel_rfl
  exact e ▸ h
theorem c_hex : Ret Tryd.prog 23 #[W4 18446744073709551615 18446744073709551615 18446744073709551615 18446744073709551615] (.string ⟨([48, 120, 102, 102, 102, 102, 102, 102, 102, 102, 102, 102, 102, 102, 102, 102, 102, 102, 102, 102, 102, 102, 102, 102, 102, 102, 102, 102, 102, 102, 102, 102, 102].append [102, 102, 102, 102, 102, 102, 102, 102, 102, 102, 102, 102, 102, 102, 102, 102, 102, 102, 102, 102, 102, 102, 102, 102, 102, 102, 102, 102, 102, 102, 102, 102, 102]).toArray⟩) := by
  have h := hex_ret (ofN (-1)) (ofN_lt _ (by unfold I64; omega))
  rw [wv_m1] at h
  have e : hexStr (ofN (-1)) = [48, 120, 102, 102, 102, 102, 102, 102, 102, 102, 102, 102, 102, 102, 102, 102, 102, 102, 102, 102, 102, 102, 102, 102, 102, 102, 102, 102, 102, 102, 102, 102, 102].append [102, 102, 102, 102, 102, 102, 102, 102, 102, 102, 102, 102, 102, 102, 102, 102, 102, 102, 102, 102, 102, 102, 102, 102, 102, 102, 102, 102, 102, 102, 102, 102, 102] := by decide
  exact e ▸ h
theorem c_add : Ret Tryd.prog 13 #[W4 18446744073709551615 18446744073709551615 18446744073709551615 18446744073709551615, W4 1 0 0 0] (W4 0 0 0 0) := by
  have h := add_ret (ofN (-1)) (ofN 1) (ofN_lt _ (by unfold I64; omega)) (ofN_lt _ (by unfold I64; omega))
  rw [wv_m1, wv_1] at h
  have e : wv (wmod (ofN (-1) + ofN 1)) = W4 0 0 0 0 := wv_of ⟨by decide, by decide, by decide, by decide⟩
  rwa [e] at h
theorem c_cmp : Ret Tryd.prog 25 #[W4 1 1 0 0, W4 18446744073709551615 18446744073709551615 18446744073709551615 18446744073709551615] (.int .i64 (-1)) := by
  have h := cmp_ret bigA (ofN (-1)) bigA_lt (ofN_lt _ (by unfold I64; omega))
  rw [wv_m1, wv_bigA] at h
  have e : wcmp bigA (ofN (-1)) = -1 := by decide
  rwa [e] at h
theorem c_from : Ret Tryd.prog 30 #[.string ⟨#[1, 0]⟩] (W4 256 0 0 0) := by
  have h := fromBytes_ret ⟨#[1, 0]⟩ (by decide)
  have e : wv (fromB [1, 0]) = W4 256 0 0 0 := wv_of ⟨by decide, by decide, by decide, by decide⟩
  exact e ▸ h
theorem c_bytes : ∃ t : ByteArray, t.size = 32 ∧ Ret Tryd.prog 21 #[W4 1 1 0 0] (.string t) := by
  have h := bytes_ret bigA bigA_lt
  rw [wv_bigA] at h
  exact ⟨_, bytesOf_size _, h⟩
theorem c_mul : Ret Tryd.prog 17 #[W4 1 1 0 0, W4 1 1 0 0] (W4 1 2 1 0) := by
  have h := mul_ret bigA bigA bigA_lt bigA_lt
  rw [wv_bigA] at h
  have e : wv (wmod (bigA * bigA)) = W4 1 2 1 0 := wv_of ⟨by decide, by decide, by decide, by decide⟩
  rwa [e] at h
theorem c_sub : Ret Tryd.prog 15 #[W4 1 0 0 0, W4 2 0 0 0] (W4 18446744073709551615 18446744073709551615 18446744073709551615 18446744073709551615) := by
  have h := sub_ret (ofN 1) (ofN 2) (ofN_lt _ (by unfold I64; omega)) (ofN_lt _ (by unfold I64; omega))
  rw [wv_1, wv_2] at h
  have e : wv (wsub (ofN 1) (ofN 2)) = W4 18446744073709551615 18446744073709551615 18446744073709551615 18446744073709551615 := wv_of ⟨by decide, by decide, by decide, by decide⟩
  rwa [e] at h
end Go.Proofs.YtgejdkiehcpinaaDoor
