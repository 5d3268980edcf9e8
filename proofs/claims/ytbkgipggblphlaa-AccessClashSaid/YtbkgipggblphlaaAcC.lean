/- Slices of one, two or three keys made; the keys of awake. Conditions: none. -/
import Derived.Test.YtbkgipggblphlaaAcB
import Derived.Test.YtbkgipggblphlaaRefC
import Derived.Great.BuildSlice
namespace Go.Proofs.Ytbkgipggblphlaa
open Go Go.RowKit
attribute [local go_sem] Oper.semAt_some Grows wide_fn

theorem fill_k1 (x : Ky) (cells : Array Value) (h : cells.size = 25) : Instr.fill (fun i => some (i * 25, 25)) cells [(0, .agg (kyC x))] = some (flatKy [x]).toArray := by
  have := Great.fill_whole (s := 25) (by decide) [.agg (kyC x)] cells (fun v hv => by
    simp at hv
    subst hv
    exact kyC_size x) (by simp [h])
  simpa [Value.cells, flatKy, kyC] using this
theorem fill_k2 (x y : Ky) (cells : Array Value) (h : cells.size = 50) : Instr.fill (fun i => some (i * 25, 25)) cells [(0, .agg (kyC x)), (1, .agg (kyC y))] = some (flatKy [x, y]).toArray := by
  have := Great.fill_whole (s := 25) (by decide) [.agg (kyC x), .agg (kyC y)] cells (fun v hv => by
    simp at hv
    rcases hv with rfl | rfl <;> exact kyC_size _) (by simp [h])
  simpa [Value.cells, flatKy, kyC] using this
theorem fill_k3 (x y z : Ky) (cells : Array Value) (h : cells.size = 75) : Instr.fill (fun i => some (i * 25, 25)) cells [(0, .agg (kyC x)), (1, .agg (kyC y)), (2, .agg (kyC z))] = some (flatKy [x, y, z]).toArray := by
  have := Great.fill_whole (s := 25) (by decide) [.agg (kyC x), .agg (kyC y), .agg (kyC z)] cells (fun v hv => by
    simp at hv
    rcases hv with rfl | rfl | rfl <;> exact kyC_size _) (by simp [h])
  simpa [Value.cells, flatKy, kyC] using this
section
variable {ops : Array Oper} {rest : List Oper} {o : Oper} {a : Act} {w : World} {Q : Exit → Act → World → Prop}
theorem wpList_build_k1 (hg : o.guard = none) (y : Operand) (ho : o.op = .buildSlice 22 1 #[(0, y)]) (x : Ky) (hy : a.eval y = .agg (kyC x))
    (h : wpList Try.prog ops Q rest (a.put o.dst (.slice (some ⟨w.heap.size, 0, none⟩) 1 1)) (w.alloc (.cells (flatKy [x]).toArray 31))) : wpList Try.prog ops Q (o :: rest) a w := by
  obtain ⟨i, z, hi, hz, hzs, hsz, hby⟩ := infoKz_of
  refine wpList_buildSlice hg 22 31 1 #[(0, y)] ho (flatKy [x]).toArray i z Try.underlying22 hi hz (by rw [hsz]; decide) (by rw [hsz]; decide) ?_ h
  rw [hsz]
  simp only [List.map_toArray, List.map_cons, List.map_nil, hy]
  exact fill_k1 x _ (by simp)
theorem wpList_build_k3 (hg : o.guard = none) (y0 y1 y2 : Operand) (ho : o.op = .buildSlice 22 3 #[(0, y0), (1, y1), (2, y2)]) (x0 x1 x2 : Ky) (h0 : a.eval y0 = .agg (kyC x0)) (h1 : a.eval y1 = .agg (kyC x1)) (h2 : a.eval y2 = .agg (kyC x2))
    (h : wpList Try.prog ops Q rest (a.put o.dst (.slice (some ⟨w.heap.size, 0, none⟩) 3 3)) (w.alloc (.cells (flatKy [x0, x1, x2]).toArray 31))) : wpList Try.prog ops Q (o :: rest) a w := by
  obtain ⟨i, z, hi, hz, hzs, hsz, hby⟩ := infoKz_of
  refine wpList_buildSlice hg 22 31 3 #[(0, y0), (1, y1), (2, y2)] ho (flatKy [x0, x1, x2]).toArray i z Try.underlying22 hi hz (by rw [hsz]; decide) (by rw [hsz]; decide) ?_ h
  rw [hsz]
  simp only [List.map_toArray, List.map_cons, List.map_nil, h0, h1, h2]
  exact fill_k3 x0 x1 x2 _ (by simp)
/-- The same behind a guard that says yes. -/
theorem wpList_build_k2 (hw : Region.wanted o (yielded ops a.tmps) = true) (y0 y1 : Operand) (ho : o.op = .buildSlice 22 2 #[(0, y0), (1, y1)]) (x0 x1 : Ky) (h0 : a.eval y0 = .agg (kyC x0)) (h1 : a.eval y1 = .agg (kyC x1))
    (h : wpList Try.prog ops Q rest (a.put o.dst (.slice (some ⟨w.heap.size, 0, none⟩) 2 2)) (w.alloc (.cells (flatKy [x0, x1]).toArray 31))) : wpList Try.prog ops Q (o :: rest) a w := by
  obtain ⟨i, z, hi, hz, hzs, hsz, hby⟩ := infoKz_of
  refine wpList_step fun K hK => ?_
  rw [if_pos hw]
  refine wp_buildSlice 22 31 2 #[(0, y0), (1, y1)] ho (flatKy [x0, x1]).toArray i z Try.underlying22 hi hz (by rw [hsz]; decide) (by rw [hsz]; decide) ?_ (hK _ _ h)
  rw [hsz]
  simp only [List.map_toArray, List.map_cons, List.map_nil, h0, h1]
  exact fill_k2 x0 x1 _ (by simp)
end
/-- A slice that was made of keys. -/
theorem keys_made (w : World) (l : List Ky) (h : ∀ x ∈ l, KyOk x) (hl : l.length ≤ 100000) : KeysAt (w.alloc (.cells (flatKy l).toArray 31)) (.slice (some ⟨w.heap.size, 0, none⟩) l.length l.length) l := by
  refine ⟨some ⟨w.heap.size, 0, none⟩, l.length, rfl, Nat.le_refl _, by omega, h, fun i x hx => ⟨_, rfl, fun j u hj => ?_⟩⟩
  have hj25 : j < 25 := by have := (List.getElem?_eq_some_iff.1 hj).1; rwa [kyL_len] at this
  rw [Addr.add_add, Addr.add_mid, Nat.zero_add]
  exact (Has.new w 31 (flatKy l).toArray).cell _ _ (by simpa using (flatKy_at l i x j hx hj25).trans hj)
def kk : Ky := ⟨256 ^ 19, true, 0⟩
def kl : Ky := ⟨256 ^ 19, false, 0⟩
def k1 : Ky := ⟨0, false, 1⟩
theorem kk_ok : KyOk kk := ⟨by decide, by show W256 0; unfold W256; omega⟩
theorem kl_ok : KyOk kl := ⟨by decide, by show W256 0; unfold W256; omega⟩
theorem k1_ok : KyOk k1 := ⟨by decide, by show W256 1; unfold W256; omega⟩
theorem kk_cells : kyC kk = #[.int .u8 1, .int .u8 0, .int .u8 0, .int .u8 0, .int .u8 0, .int .u8 0, .int .u8 0, .int .u8 0, .int .u8 0, .int .u8 0, .int .u8 0, .int .u8 0, .int .u8 0, .int .u8 0, .int .u8 0, .int .u8 0, .int .u8 0, .int .u8 0, .int .u8 0, .int .u8 0, .bool true, .int .u64 0, .int .u64 0, .int .u64 0, .int .u64 0] := by kernel_rfl
theorem kl_cells : kyC kl = #[.int .u8 1, .int .u8 0, .int .u8 0, .int .u8 0, .int .u8 0, .int .u8 0, .int .u8 0, .int .u8 0, .int .u8 0, .int .u8 0, .int .u8 0, .int .u8 0, .int .u8 0, .int .u8 0, .int .u8 0, .int .u8 0, .int .u8 0, .int .u8 0, .int .u8 0, .int .u8 0, .bool false, .int .u64 0, .int .u64 0, .int .u64 0, .int .u64 0] := by kernel_rfl
theorem k1_cells : kyC k1 = #[.int .u8 0, .int .u8 0, .int .u8 0, .int .u8 0, .int .u8 0, .int .u8 0, .int .u8 0, .int .u8 0, .int .u8 0, .int .u8 0, .int .u8 0, .int .u8 0, .int .u8 0, .int .u8 0, .int .u8 0, .int .u8 0, .int .u8 0, .int .u8 0, .int .u8 0, .int .u8 0, .bool false, .int .u64 1, .int .u64 0, .int .u64 0, .int .u64 0] := by kernel_rfl
theorem setA : setL [kk, kl, kk] = [kl, kk] := by kernel_rfl
theorem setB : setL [kk] = [kk] := by kernel_rfl
theorem mkA_ : makeM [] [kk, kl, kk] = ([], [kl, kk], 0) := by
  rw [makeM_ok (by rfl) (by rfl) (by decide) (by rw [setA]; decide), setA]
  rfl
theorem mkB_ : makeM [kk] [] = ([kk], [], 0) := by
  rw [makeM_ok (by rfl) (by rfl) (by rw [setB]; decide) (by decide), setB]
  rfl
theorem mkC_ : makeM [] [k1] = ([], [], 1) := by
  unfold makeM
  rw [if_pos (by rfl)]
theorem upA : Kup [kl, kk] := List.pairwise_cons.2 ⟨fun z hz => by
  have : z = kk := by simpa using hz
  subst this
  unfold Kl
  have : kcmp kl kk = -1 := by kernel_rfl
  rw [this]
  decide, List.pairwise_singleton _ _⟩
theorem fitA : fitB [kl, kk] = true := fitB_yes (by decide) ((kupB_iff _).2 upA) (fun j y hy => by
  match j, hy with
  | 0, hy => injection hy with hy; subst hy; rfl
  | 1, hy => injection hy with hy; subst hy; rfl
  | j + 2, hy => simp at hy)
theorem fitK : fitB [kk] = true := fitB_yes (by decide) ((kupB_iff _).2 (List.pairwise_singleton _ _)) (fun j y hy => by
  match j, hy with
  | 0, hy => injection hy with hy; subst hy; rfl
  | j + 1, hy => simp at hy)
theorem fitN : fitB [] = true := fitB_yes (by decide) ((kupB_iff _).2 List.Pairwise.nil) (fun j y hy => by simp at hy)
theorem mkJ_ : joinM [] [kl, kk] [kk] [] = ([kk], [kl, kk], 0) := by
  unfold joinM
  rw [fitA, fitK, fitN, if_pos (by rfl)]
  show makeM [kk] [kl, kk] = _
  rw [makeM_ok (by rfl) (by rfl) (by rw [setB]; decide) (by rw [setL_self upA]; decide), setL_self upA, setB]
end Go.Proofs.Ytbkgipggblphlaa
