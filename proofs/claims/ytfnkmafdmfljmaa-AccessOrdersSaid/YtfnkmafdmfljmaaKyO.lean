/- A key as an argument. Conditions: none. -/
import Derived.Test.YtfnkmafdmfljmaaAcM
import Derived.Test.YtfnkmafdmfljmaaOpenP
import Derived.Test.YtfnkmafdmfljmaaRawO
namespace Go.Proofs.Ytfnkmafdmfljmaa
open Go Go.ChangeShapes Go.WideShapes Go.ChangeAt Go.RowKit Go.Deep
set_option maxRecDepth 100000

theorem cellsU8 : Try.prog.cellsOf 5 = 1 := by kernel_rfl
theorem cellsAddr : Try.prog.cellsOf 26 = 20 := by kernel_rfl
theorem cellsBool1 : Try.prog.cellsOf 4 = 1 := by kernel_rfl
theorem cellsKey : Try.prog.cellsOf 31 = 25 := by kernel_rfl
/-- A number of given bytes. -/
theorem of_bytes : ∀ (m : Nat) (f : Nat → Nat), (∀ j, f j < 256) → ∃ n, n < 256 ^ m ∧ ∀ j, j < m → n / 256 ^ j % 256 = f j
  | 0, f, _ => ⟨0, by simp, fun j h => by omega⟩
  | m + 1, f, hf => by
    obtain ⟨n, hn, h⟩ := of_bytes m (fun j => f (j + 1)) (fun j => hf (j + 1))
    have h0 := hf 0
    refine ⟨f 0 + 256 * n, ?_, fun j hj => ?_⟩
    · rw [Nat.pow_succ]; omega
    · cases j with
      | zero => simp; omega
      | succ j =>
        rw [Nat.pow_succ', ← Nat.div_div_eq_div_mul, show (f 0 + 256 * n) / 256 = n by omega]
        exact h j (by omega)
theorem addr_of (cs : List Value) (hl : cs.length = 20) (h : ∀ i, i < 20 → ∃ b : Nat, b < 256 ∧ cs[i]? = some (.int .u8 (b : Int))) : ∃ n, n < 256 ^ 20 ∧ cs = adL n := by
  have hch : ∃ f : Nat → Nat, (∀ j, f j < 256) ∧ ∀ i, i < 20 → cs[i]? = some (.int .u8 ((f i : Nat) : Int)) := by
    refine ⟨fun i => if h' : i < 20 then Classical.choose (h i h') else 0, fun j => ?_, fun i hi => ?_⟩
    · by_cases h' : j < 20
      · simp only [dif_pos h']; exact (Classical.choose_spec (h j h')).1
      · simp only [dif_neg h']; decide
    · simp only [dif_pos hi]; exact (Classical.choose_spec (h i hi)).2
  obtain ⟨f, hf, hc⟩ := hch
  obtain ⟨n, hn, hb⟩ := of_bytes 20 (fun j => f (19 - j)) (fun j => hf _)
  refine ⟨n, hn, List.ext_getElem? fun i => ?_⟩
  by_cases hi : i < 20
  · rw [hc i hi]
    have e := hb (19 - i) (by omega)
    rw [show 19 - (19 - i) = i by omega] at e
    rw [show (adL n)[i]? = some (.int .u8 ((adB n i : Nat) : Int)) by simp [adL, hi]]
    unfold adB
    rw [e]
  · rw [List.getElem?_eq_none (by omega), List.getElem?_eq_none (by rw [adL_len]; omega)]
/-- What an address's reading gives. -/
theorem trod_addr {H : Type} {enc : TypeId × Value → H} {w : World} {base : Nat} {sp : Nat → Bool} {held : Bool} {fuel : Nat} {cs : List Value} {x : DataW H × List MemPlace}
    (h : DataW.trod enc Try.prog w base sp held fuel 26 cs = some x) (hl : cs.length = 20) : ∃ n, n < 256 ^ 20 ∧ cs = adL n := by
  obtain ⟨xs, m, rfl, hx, hlen, hxl, hi⟩ := DataW.trod_array Try.underlying26 h
  refine addr_of cs hl fun i hi20 => ?_
  have h1 := hi i hi20
  rw [cellsU8, Nat.mul_one] at h1
  have hxs : i < xs.length := by omega
  rw [List.getElem?_eq_getElem hxs] at h1
  obtain ⟨x0, e0, hy, w0⟩ := DataW.trod_int Try.underlying5 h1
  have hci : i < cs.length := by omega
  have hd1 : (cs.drop i).take 1 = [cs[i]] := by
    rw [List.drop_eq_getElem_cons hci]; rfl
  rw [hd1] at e0
  have b0 := bounds_u8 w0
  refine ⟨x0.toNat, by omega, ?_⟩
  rw [List.getElem?_eq_getElem hci, Int.toNat_of_nonneg b0.1]
  simpa using e0
theorem trod_bool1 {H : Type} {enc : TypeId × Value → H} {w : World} {base : Nat} {sp : Nat → Bool} {held : Bool} {fuel : Nat} {c : Value} {x : DataW H × List MemPlace}
    (h : DataW.trod enc Try.prog w base sp held fuel 4 [c] = some x) : ∃ b, c = .bool b := by
  cases fuel with
  | zero => simp [DataW.trod] at h
  | succ n =>
    unfold DataW.trod at h
    rw [Try.underlying4] at h
    cases c <;> simp at h ⊢
theorem four_k (a b c d : Int) (ha : U64 a) (hb : U64 b) (hc : U64 c) (hd : U64 d) : ∃ n, W256 n ∧ lim n 0 = a ∧ lim n 1 = b ∧ lim n 2 = c ∧ lim n 3 = d := by
  obtain ⟨z, z0, z1, z2, z3⟩ : ∃ z : Nat → Int, z 0 = a ∧ z 1 = b ∧ z 2 = c ∧ z 3 = d := ⟨fun k => if k = 0 then a else if k = 1 then b else if k = 2 then c else d, rfl, rfl, rfl, rfl⟩
  subst z0 z1 z2 z3
  obtain ⟨g0, g1⟩ := num_lt z ha hb hc hd
  have en : num z = ((num z).toNat : Int) := (Int.toNat_of_nonneg g0).symm
  refine ⟨_, ?_, lim_num z (num z).toNat ha hb hc hd en⟩
  unfold W256
  rw [en] at g1
  exact Int.ofNat_lt.1 g1
theorem trod_word_k {H : Type} {enc : TypeId × Value → H} {w : World} {base : Nat} {sp : Nat → Bool} {held : Bool} {fuel : Nat} {c0 c1 c2 c3 : Value} {x : DataW H × List MemPlace}
    (h : DataW.trod enc Try.prog w base sp held fuel 29 [c0, c1, c2, c3] = some x) : ∃ n, W256 n ∧ c0 = .int .u64 (lim n 0) ∧ c1 = .int .u64 (lim n 1) ∧ c2 = .int .u64 (lim n 2) ∧ c3 = .int .u64 (lim n 3) := by
  obtain ⟨y0, y1, y2, y3, m, hx, hy0, hy1, hy2, hy3⟩ := trod_array4 Try.underlying29 cellsU64 h
  obtain ⟨x0, e0, rfl, w0⟩ := DataW.trod_int Try.underlying27 hy0
  obtain ⟨x1, e1, rfl, w1⟩ := DataW.trod_int Try.underlying27 hy1
  obtain ⟨x2, e2, rfl, w2⟩ := DataW.trod_int Try.underlying27 hy2
  obtain ⟨x3, e3, rfl, w3⟩ := DataW.trod_int Try.underlying27 hy3
  simp at e0 e1 e2 e3
  subst e0 e1 e2 e3
  obtain ⟨n, hn, h0, h1, h2, h3⟩ := four_k x0 x1 x2 x3 (u64_of_wf w0) (u64_of_wf w1) (u64_of_wf w2) (u64_of_wf w3)
  exact ⟨n, hn, by rw [h0], by rw [h1], by rw [h2], by rw [h3]⟩
theorem cut25 {α : Type} (l : List α) (h : l.length = 25) : ∃ (p : List α) (b c0 c1 c2 c3 : α), p.length = 20 ∧ l = p ++ [b, c0, c1, c2, c3] := by
  have hd : (l.drop 20).length = 5 := by rw [List.length_drop]; omega
  have e := (List.take_append_drop 20 l).symm
  generalize hq : l.drop 20 = q at *
  match q, hd with
  | [b, c0, c1, c2, c3], _ => exact ⟨l.take 20, b, c0, c1, c2, c3, by rw [List.length_take]; omega, e⟩
set_option maxRecDepth 100000 in
theorem trod_key {H : Type} {enc : TypeId × Value → H} {w : World} {base : Nat} {sp : Nat → Bool} {held : Bool} {fuel : Nat} {cs : List Value} {x : DataW H × List MemPlace}
    (h : DataW.trod enc Try.prog w base sp held fuel 31 cs = some x) (hl : cs.length = 25) : ∃ k : Ky, KyOk k ∧ cs = kyL k := by
  obtain ⟨p, b, c0, c1, c2, c3, hp, rfl⟩ := cut25 cs hl
  obtain ⟨ys, n, _, _, _, hyl, hg⟩ := DataW.trod_struct Try.underlying31 h
  have hA := cellsAddr
  have hB := cellsBool1
  have hW := cellsWord
  have h0 := hg 0 _ rfl
  have h1 := hg 1 _ rfl
  have h2 := hg 2 _ rfl
  have h0 : DataW.trod enc Try.prog w base sp held n 26 (((p ++ [b, c0, c1, c2, c3]).drop 0).take (Try.prog.cellsOf 26)) = ys[0]? := h0
  have h1 : DataW.trod enc Try.prog w base sp held n 4 (((p ++ [b, c0, c1, c2, c3]).drop 20).take (Try.prog.cellsOf 4)) = ys[1]? := h1
  have h2 : DataW.trod enc Try.prog w base sp held n 29 (((p ++ [b, c0, c1, c2, c3]).drop 21).take (Try.prog.cellsOf 29)) = ys[2]? := h2
  obtain ⟨y0, y1, y2, rfl⟩ : ∃ a b c, ys = [a, b, c] := by
    match ys, hyl with
    | [a, b, c], _ => exact ⟨a, b, c, rfl⟩
  have d0 : ((p ++ [b, c0, c1, c2, c3]).drop 0).take 20 = p := by simp [List.take_append, hp]
  have d1 : ((p ++ [b, c0, c1, c2, c3]).drop 20).take 1 = [b] := by simp [List.drop_append, hp]
  have d2 : ((p ++ [b, c0, c1, c2, c3]).drop 21).take 4 = [c0, c1, c2, c3] := by
    have h21 : List.drop 21 p = [] := List.drop_eq_nil_of_le (by omega)
    simp [List.drop_append, hp, h21]
  rw [hA, d0] at h0
  rw [hB, d1] at h1
  rw [hW, d2] at h2
  obtain ⟨m, hm, rfl⟩ := trod_addr h0 hp
  obtain ⟨s, rfl⟩ := trod_bool1 h1
  obtain ⟨v, hv, rfl, rfl, rfl, rfl⟩ := trod_word_k h2
  exact ⟨⟨m, s, v⟩, ⟨hm, hv⟩, rfl⟩
/-- What the row's reading gives of such an argument. -/
theorem open_key {H : Type} {enc : TypeId × Value → H} {W : World} {base b : Nat} {sp : Nat → Bool} {held : Bool} {v : Value} {d : DataW H} {ps : List MemPlace}
    (hval : Value.okWide Try.prog W .any base 31 v) (hd : DataW.Trod enc Try.prog W b sp held 31 v d ps) : ∃ k, KyOk k ∧ v = .agg (kyC k) := by
  obtain ⟨cs, rfl, hsz⟩ := okWide_struct Try.underlying31 hval
  rw [cellsKey] at hsz
  obtain ⟨l⟩ := cs
  obtain ⟨fuel, hf⟩ := hd
  obtain ⟨k, hk, e⟩ := trod_key (cs := l) hf hsz
  subst e
  exact ⟨k, hk, rfl⟩
end Go.Proofs.Ytfnkmafdmfljmaa
