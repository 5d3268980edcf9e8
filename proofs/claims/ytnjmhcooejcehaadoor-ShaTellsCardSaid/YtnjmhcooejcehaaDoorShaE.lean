/- The letters' bytes, as a text. For all letters. -/
import Derived.Test.YtnjmhcooejcehaaDoorShaD
import Derived.Laws.MakeOwn
import Derived.Laws.AppendOwn
import Derived.Laws.OwnMore
import Derived.Laws.IdiomStrings
import Derived.OwnWalk
import Derived.WalkSmall
namespace Go.Proofs.YtnjmhcooejcehaaDoor
open Go Go.RowKit Go.Shelf
attribute [local go_sem] Oper.semAt_some Grows wide_fn

theorem infoB : (Tryd.prog.info? 5).map (fun i => (i.zero, i.size, i.bytes)) = some (some (.int .u8 0), 1, 1) := by kernel_rfl
theorem info_partsB {t : TypeId} {v : Value} {m n : Nat} (h : (Tryd.prog.info? t).map (fun i => (i.zero, i.size, i.bytes)) = some (some v, m, n)) : ∃ i, Tryd.prog.info? t = some i ∧ i.zero = some v ∧ i.size = m ∧ i.bytes = n := by
  cases hi : Tryd.prog.info? t with
  | none => rw [hi] at h; cases h
  | some i =>
    rw [hi] at h
    simp at h
    exact ⟨i, rfl, h.1, h.2.1, h.2.2⟩
theorem row_formB {w : World} {base : Nat} {e : TypeId} {v : Value} {n : Nat} {xs : List Value} (h : w.ownsRow base e 1 v n xs) : ∃ o cap, v = .slice o n cap := by
  rcases h.2 with ⟨rfl, rfl⟩ | ⟨g, cap, _, rfl, _⟩
  · exact ⟨_, _, rfl⟩
  · exact ⟨_, _, rfl⟩
theorem cell_four (w : World) (x y z u : Value) (t : TypeId) : ∀ j v, [x, y, z, u][j]? = some v → (w.alloc (.cells #[x, y, z, u] t)).cell? ((⟨w.heap.size, 0, none⟩ : Addr).add j) = some v := by
  intro j v hj
  have L := Has.new w t #[x, y, z, u]
  have hadd : (⟨w.heap.size, 0, none⟩ : Addr).add j = ⟨w.heap.size, j, none⟩ := by unfold Addr.add; split <;> simp_all
  rw [hadd]
  exact L.cell j v (by simpa using hj)

/-- The letters' bytes. -/
def texN (H : Nat → Nat) (j : Nat) : Nat := H (j / 4) / 2 ^ (8 * (3 - j % 4)) % 256
theorem texN_lt (H : Nat → Nat) (j : Nat) : texN H j < 256 := Nat.mod_lt _ (by omega)
def rowT (H : Nat → Nat) (k : Nat) : List Value := (List.range (4 * k)).map fun j => Value.int .u8 ((texN H j : Nat) : Int)
def texS (H : Nat → Nat) : ByteArray := ⟨((List.range 32).map fun j => UInt8.ofNat (texN H j)).toArray⟩
theorem texS_size (H : Nat → Nat) : (texS H).size = 32 := by
  show ((List.range 32).map fun j => UInt8.ofNat (texN H j)).toArray.size = 32
  simp
theorem rowT_succ (H : Nat → Nat) (k : Nat) : rowT H (k + 1) = rowT H k ++ [.int .u8 ((H k / 2 ^ 24 % 256 : Nat) : Int), .int .u8 ((H k / 2 ^ 16 % 256 : Nat) : Int), .int .u8 ((H k / 2 ^ 8 % 256 : Nat) : Int), .int .u8 ((H k % 256 : Nat) : Int)] := by
  have h0 : texN H (4 * k) = H k / 2 ^ 24 % 256 := by unfold texN; rw [show 4 * k / 4 = k by omega, show 8 * (3 - 4 * k % 4) = 24 by omega]
  have h1 : texN H (4 * k + 1) = H k / 2 ^ 16 % 256 := by unfold texN; rw [show (4 * k + 1) / 4 = k by omega, show 8 * (3 - (4 * k + 1) % 4) = 16 by omega]
  have h2 : texN H (4 * k + 2) = H k / 2 ^ 8 % 256 := by unfold texN; rw [show (4 * k + 2) / 4 = k by omega, show 8 * (3 - (4 * k + 2) % 4) = 8 by omega]
  have h3 : texN H (4 * k + 3) = H k % 256 := by unfold texN; rw [show (4 * k + 3) / 4 = k by omega, show 8 * (3 - (4 * k + 3) % 4) = 0 by omega, Nat.pow_zero, Nat.div_one]
  unfold rowT
  rw [show 4 * (k + 1) = 4 * k + 1 + 1 + 1 + 1 by omega, List.range_succ, List.range_succ, List.range_succ, List.range_succ]
  simp only [List.map_append, List.map_cons, List.map_nil, List.append_assoc, List.cons_append, List.nil_append, h0, h1, h2, h3]

theorem conv_row {W : World} {base : Nat} {v : Value} {H : Nat → Nat} (h : W.ownsRow base 5 1 v 32 (rowT H 8)) : (convert 26 9 v).run Tryd.prog W = .ok (.string (texS H)) W := by
  rcases h.2 with ⟨_, h0⟩ | ⟨g, cap, cur, rfl, _⟩
  · cases h0
  have hl : ((List.range 32).map fun j => UInt8.ofNat (texN H j)).length = 32 := by simp
  have hc := h.cells (g := g) rfl
  have h2 := run_convert_bytes_back (P := Tryd.prog) W 26 9 5 ⟨g, 0, none⟩ cap ((List.range 32).map fun j => UInt8.ofNat (texN H j)) Tryd.underlying26 Tryd.underlying5 Tryd.underlying9 (fun j hj => by
    have hj2 : j < 32 := by simpa using hj
    refine (hc j (.int .u8 ((texN H j : Nat) : Int)) ?_).trans ?_
    · unfold rowT
      rw [List.getElem?_map, List.getElem?_range (by omega)]
      rfl
    · congr 2
      simp only [List.getElem_map, List.getElem_range]
      rw [UInt8.toNat_ofNat', Nat.mod_eq_of_lt (show texN H j < 2 ^ 8 from texN_lt H j)])
  rw [hl] at h2
  exact h2

theorem run_mk32 (W : World) : ∃ cs : Array Value, cs.size = 32 ∧ (Instr.makeSlice 26 (.int .i64 0) (.int .i64 32)).run Tryd.prog W = .ok (.slice (some ⟨W.heap.size, 0, none⟩) 0 32) (W.alloc (.cells cs 5)) := by
  obtain ⟨i0, hi, hz0, hz1, hz2⟩ := info_partsB infoB
  have h := run_make (P := Tryd.prog) W 26 5 i0 (.int .u8 0) Tryd.underlying26 hi hz0 .i64 .i64 0 32 (by omega) (by omega) (by rw [hz2]; omega) (by omega)
  exact ⟨_, by rw [hz1]; simp [madeCells], h⟩

set_option maxRecDepth 100000 in
set_option maxHeartbeats 4000000 in
theorem text_ret (H : Nat → Nat) : Ret Tryd.prog 21 #[.agg (arC 8 H)] (.string (texS H)) := by
  intro w
  have LH := Has.new w 46 (arC 8 H)
  obtain ⟨cs, hcs, hmk⟩ := run_mk32 (w.alloc (.cells (arC 8 H) 46))
  have RN : ((w.alloc (.cells (arC 8 H) 46)).alloc (.cells cs 5)).ownsRow w.heap.size 5 1 (.slice (some ⟨(w.alloc (.cells (arC 8 H) 46)).heap.size, 0, none⟩) 0 32) (4 * 0) (rowT H 0) := World.ownsRow_made _ cs 32 (by simp) (by unfold maxLen; omega) (by rw [hcs])
  have Q := ((Below.refl w.heap.size w).alloc (Nat.le_refl _) (.cells (arC 8 H) 46)).alloc (by simp) (.cells cs 5)
  simp only [World.size_alloc] at RN hmk
  have HLH := Lib.hid (load8 (LH.alloc (.cells cs 5)))
  clear LH hcs
  go_enter Tryd.func21, Tryd.ntmps21
  go_wp2_with (refine wpList_loadB rfl _ _ rfl w.heap.size rfl _ HLH.out ?_)
  obtain ⟨W0, hW0⟩ : ∃ W0, (w.alloc (.cells (arC 8 H) 46)).alloc (.cells cs 5) = W0 := ⟨_, rfl⟩
  rw [hW0] at RN Q ⊢
  clear hmk HLH hW0
  go_loopw [3, 8] (fun t i wr => ∃ k : Nat, k ≤ 8 ∧ i = .int .i64 (k : Int) ∧ wr.ownsRow w.heap.size 5 1 t (4 * k) (rowT H k) ∧ Below w.heap.size w wr) (fun _ i _ => 8 - (intOf i).toNat)
  case atStart => exact ⟨0, by omega, rfl, RN, Q⟩
  case round =>
    clear RN Q
    obtain ⟨k, hk, rfl, hown, Q⟩ := hrel
    obtain ⟨o, cap2, rfl⟩ := row_formB hown
    by_cases hlt : k < 8
    · have hkI : (k : Int) < 8 := by omega
      have hix := index8 H k hlt wr
      have w3 : IntKind.u8.wrap (((H k : Nat) : Int) / 16777216) = ((H k / 2 ^ 24 % 256 : Nat) : Int) := by rw [IntKind.wrap_u8']; omega
      have w2 : IntKind.u8.wrap (((H k : Nat) : Int) / 65536) = ((H k / 2 ^ 16 % 256 : Nat) : Int) := by rw [IntKind.wrap_u8']; omega
      have w1 : IntKind.u8.wrap (((H k : Nat) : Int) / 256) = ((H k / 2 ^ 8 % 256 : Nat) : Int) := by rw [IntKind.wrap_u8']; omega
      have w0 : IntKind.u8.wrap ((H k : Nat) : Int) = ((H k % 256 : Nat) : Int) := by rw [IntKind.wrap_u8']; omega
      have HS := Lib.hid (rowT_succ H k)
      have HLT := Lib.hid hlt
      have HRow := Lib.hid hown
      have HQ := Lib.hid Q
      obtain ⟨i0, hi, hz0, hz1, hz2⟩ := info_partsB infoB
      clear hlt hk hown Q
      generalize H k / 2 ^ 24 % 256 = b3 at *
      generalize H k / 2 ^ 16 % 256 = b2 at *
      generalize H k / 2 ^ 8 % 256 = b1 at *
      generalize H k % 256 = b0 at *
      generalize H k = hk at *
      go_wp2_with (at_builtin; refine wpList_append_own _ rfl _ _ 26 rfl w.heap.size 5 i0 (.int .u8 0) 1 1 Tryd.underlying26 hi hz0 hz1 hz2 rfl (by decide) _ _ _ rfl (HRow.out.alloc _) ⟨wr.heap.size, 0, none⟩ 4 4 [.int .u8 (b3 : Int), .int .u8 (b2 : Int), .int .u8 (b1 : Int), .int .u8 (b0 : Int)] rfl rfl (cell_four _ _ _ _ _ _) (by simp [Value.oneCell']) (by unfold maxLen; have := HLT.out; omega) (by have := HLT.out; omega) (by have := HQ.out.size; simp; omega) ?_; intro v' w3 hown' hgrow hnil)
      clear hi hz0 hz1 hz2
      go_wp2
      go_roundw
      case rel =>
        have hne := fun (r : Nat) e => ((HRow.out.alloc (.cells #[.int .u8 (b3 : Int), .int .u8 (b2 : Int), .int .u8 (b1 : Int), .int .u8 (b0 : Int)] 5)).lt r e).1
        refine ⟨k + 1, by have := HLT.out; omega, by simp, ?_, ?_⟩
        · rw [HS.out, show 4 * (k + 1) = 4 * k + 4 by omega]; exact hown'
        · exact (HQ.out.alloc HQ.out.size _).grown hgrow (by have := HQ.out.size; simp; omega) (fun j e => by have := hne j e; omega)
      case measure => have := HLT.out; first | (simp [intOf]; done) | (simp [intOf]; omega)
    · obtain rfl : k = 8 := by omega
      have hcv := conv_row (H := H) hown
      have HQ := Lib.hid Q
      clear hown Q hk hlt
      obtain ⟨out, hout⟩ : ∃ out, texS H = out := ⟨_, rfl⟩
      rw [hout] at hcv
      have HE := Lib.hid hout
      clear hout
      go_wp2
      go_ret
      rw [HE.out]
      exact ⟨rfl, HQ.out⟩
end Go.Proofs.YtnjmhcooejcehaaDoor
