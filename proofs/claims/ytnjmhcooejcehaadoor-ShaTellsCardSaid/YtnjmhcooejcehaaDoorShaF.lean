/- A text, its end and its size in bits: the blocks of a sum. For all texts that are not too long. -/
import Derived.Test.YtnjmhcooejcehaaDoorShaE
import Derived.Lib.LazyBuf
namespace Go.Proofs.YtnjmhcooejcehaaDoor
open Go Go.RowKit Go.Shelf
attribute [local go_sem] Oper.semAt_some Grows wide_fn

/-- Bytes, as cells. -/
def ubC (n : Nat) (A : Nat → Nat) : Array Value := ((List.range n).map fun i => Value.int .u8 ((A i : Nat) : Int)).toArray
theorem ubC_size (n : Nat) (A : Nat → Nat) : (ubC n A).size = n := by simp [ubC]
theorem ubC_get (n : Nat) (A : Nat → Nat) (j : Nat) (h : j < n) : (ubC n A)[j]? = some (.int .u8 ((A j : Nat) : Int)) := by simp [ubC, h]
theorem ubC_congr (n : Nat) (A B : Nat → Nat) (h : ∀ j, j < n → A j = B j) : ubC n A = ubC n B := by
  unfold ubC
  congr 1
  refine List.map_congr_left (fun i hi => ?_)
  rw [h i (List.mem_range.1 hi)]
theorem ubC_set (n : Nat) (A B : Nat → Nat) (k v : Nat) (hB : ∀ j, j < n → B j = if j = k then v else A j) : (ubC n A).setIfInBounds k (.int .u8 ((v : Nat) : Int)) = ubC n B := by
  refine Array.ext (by simp [ubC]) (fun i h1 h2 => ?_)
  have hi : i < n := by simpa [ubC] using h2
  rw [Array.getElem_setIfInBounds (by simpa [ubC] using hi)]
  simp only [ubC, List.getElem_toArray, List.getElem_map, List.getElem_range]
  rw [hB i hi]
  by_cases e : k = i
  · rw [if_pos e, if_pos e.symm]
  · rw [if_neg e, if_neg (fun h => e h.symm)]
theorem made_ubC (n : Nat) : madeCells #[.int .u8 0] n = ubC n fun _ => 0 := by
  refine Array.ext (by simp [madeCells, ubC]) (fun i h1 h2 => ?_)
  simp [madeCells, ubC, Nat.mod_one]
theorem run_mkB (W : World) (n : Nat) (hn : n ≤ 1073741824) : (Instr.makeSlice 26 (.int .i64 (n : Int)) (.int .i64 (n : Int))).run Tryd.prog W = .ok (.slice (some ⟨W.heap.size, 0, none⟩) n n) (W.alloc (.cells (ubC n fun _ => 0) 5)) := by
  obtain ⟨i0, hi, hz0, hz1, hz2⟩ := info_partsB infoB
  have h := run_make (P := Tryd.prog) W 26 5 i0 (.int .u8 0) Tryd.underlying26 hi hz0 .i64 .i64 (n : Int) (n : Int) (by omega) (by omega) (by rw [hz2]; omega) (by omega)
  rw [hz1, Nat.mul_one, Int.toNat_natCast, show Value.cells (.int .u8 0) = #[.int .u8 0] from rfl, made_ubC] at h
  exact h

/-- A text's byte. -/
def byN (p : ByteArray) (i : Nat) : Nat := (p.data.getD i 0).toNat
theorem byN_lt (p : ByteArray) (i : Nat) : byN p i < 256 := (p.data.getD i 0).toNat_lt
theorem byN_at (p : ByteArray) (i : Nat) (hi : i < p.size) : byN p i = (p.data[i]'hi).toNat := by
  unfold byN
  have hi' : i < p.data.size := hi
  rw [Array.getD_eq_getD_getElem?, Array.getElem?_eq_getElem hi']
  rfl

theorem has_setCells {b : Nat} {t : TypeId} : ∀ (vs : List Value) (o : Nat) (W : World) (cs : Array Value), Has W b t cs →
    ∃ cs' : Array Value, Has (W.setCells b o vs) b t cs' ∧ cs'.size = cs.size ∧ ∀ j, j < cs.size → cs'[j]? = if o ≤ j ∧ j < o + vs.length then vs[j - o]? else cs[j]?
  | [], o, W, cs, h => ⟨cs, h, rfl, fun j _ => by rw [if_neg (by simp)]⟩
  | v :: r, o, W, cs, h => by
    obtain ⟨cs', h', hs, hc⟩ := has_setCells r (o + 1) _ _ (h.set o v)
    refine ⟨cs', h', by rw [hs, Array.size_setIfInBounds], fun j hj => ?_⟩
    rw [hc j (by rw [Array.size_setIfInBounds]; exact hj)]
    by_cases h1 : j = o
    · subst h1
      rw [if_neg (by omega), if_pos (by simp), Nat.sub_self, Array.getElem?_setIfInBounds_self_of_lt hj]
      rfl
    · by_cases h2 : o + 1 ≤ j ∧ j < o + 1 + r.length
      · rw [if_pos h2, if_pos (by simp; omega), show j - o = (j - (o + 1)) + 1 by omega, List.getElem?_cons_succ]
      · rw [if_neg h2, if_neg (by simp; omega), Array.getElem?_setIfInBounds_ne (fun e => h1 e.symm)]

/-- How many blocks a text has. -/
def nbN (n : Nat) : Nat := (n + 9 + 64 - 1) / 64
/-- The bytes behind k of those that tell the size. -/
def pdK (s : ByteArray) (k j : Nat) : Nat := if j < s.size then byN s j else if j = s.size then 128 else if 64 * nbN s.size - k ≤ j then 8 * s.size / 2 ^ (8 * (64 * nbN s.size - 1 - j)) % 256 else 0
def padN (s : ByteArray) : Nat → Nat := pdK s 8
theorem pdK_lt (s : ByteArray) (k j : Nat) : pdK s k j < 256 := by
  unfold pdK
  split
  · exact byN_lt s j
  · split
    · omega
    · split
      · exact Nat.mod_lt _ (by omega)
      · omega
def cpN (s : ByteArray) (j : Nat) : Nat := if j < s.size then byN s j else 0
theorem copied_row (s : ByteArray) (n : Nat) (W : World) (b : Nat) (h : Has W b 5 (ubC n fun _ => 0)) : Has (W.setCells b 0 (s.data.toList.map fun x => Value.int .u8 (x.toNat : Int))) b 5 (ubC n (cpN s)) := by
  obtain ⟨cs', h', hs, hc⟩ := has_setCells (s.data.toList.map fun x => Value.int .u8 (x.toNat : Int)) 0 W _ h
  rw [ubC_size] at hs hc
  have he : cs' = ubC n (cpN s) := by
    refine Array.ext_getElem? fun j => ?_
    rcases Nat.lt_or_ge j n with hj | hj
    · rw [hc j hj, ubC_get n _ j hj, ubC_get n _ j hj]
      unfold cpN
      have hl : (s.data.toList.map fun x => Value.int .u8 (x.toNat : Int)).length = s.size := by rw [List.length_map]; rfl
      rw [hl]
      by_cases h1 : j < s.size
      · rw [if_pos (by omega), if_pos h1, Nat.sub_zero, List.getElem?_map, Array.getElem?_toList, Array.getElem?_eq_getElem (show j < s.data.size from h1), byN_at s j h1]
        rfl
      · rw [if_neg (by omega), if_neg h1]
    · rw [Array.getElem?_eq_none (by omega), Array.getElem?_eq_none (by rw [ubC_size]; exact hj)]
  rw [← he]
  exact h'

set_option maxRecDepth 100000 in
set_option maxHeartbeats 4000000 in
theorem padded_calls (s : ByteArray) (hs : s.size ≤ 1048576) (w : World) :
    Calls Tryd.prog 18 #[.string s] w fun e w' => ∃ g, e = .returned (.slice (some ⟨g, 0, none⟩) (64 * nbN s.size) (64 * nbN s.size)) ∧ w.heap.size ≤ g ∧ Has w' g 5 (ubC (64 * nbN s.size) (padN s)) ∧ Below w.heap.size w w' := by
  have HR := Lib.hid (roundedUp_ret (s.size + 9) 64 (by omega) (by omega))
  have hn0 : s.size + 9 ≤ 64 * nbN s.size := by unfold nbN; omega
  have hn1 : 64 * nbN s.size < s.size + 73 := by unfold nbN; omega
  have HS : Hid (∀ k, k < 8 → ∀ j, j < 64 * nbN s.size → pdK s (k + 1) j = if j = 64 * nbN s.size - 1 - k then 8 * s.size / 2 ^ (8 * k) % 256 else pdK s k j) := Lib.hid (fun k hk j hj => by
    unfold pdK
    by_cases e : j = 64 * nbN s.size - 1 - k
    · rw [if_pos e, if_neg (by omega), if_neg (by omega), if_pos (by omega), show 64 * nbN s.size - 1 - j = k by omega]
    · rw [if_neg e]
      by_cases e1 : j < s.size
      · rw [if_pos e1, if_pos e1]
      · rw [if_neg e1, if_neg e1]
        by_cases e2 : j = s.size
        · rw [if_pos e2, if_pos e2]
        · rw [if_neg e2, if_neg e2]
          by_cases e3 : 64 * nbN s.size - k ≤ j
          · rw [if_pos e3, if_pos (by omega)]
          · rw [if_neg e3, if_neg (by omega)])
  have H0 : Hid (∀ j, j < 64 * nbN s.size → pdK s 0 j = if j = s.size then 128 else cpN s j) := Lib.hid (fun j hj => by
    unfold pdK cpN
    by_cases e : j = s.size
    · rw [if_neg (by omega), if_pos e, if_pos e]
    · by_cases e1 : j < s.size
      · rw [if_pos e1, if_neg e, if_pos e1]
      · rw [if_neg e1, if_neg e, if_neg e, if_neg (by omega), if_neg e1])
  have HP : Hid (padN s = pdK s 8) := Lib.hid rfl
  have hm : Hid ((s.size + 9 + 64 - 1) / 64 = nbN s.size) := Lib.hid rfl
  have HCP := Lib.hid (copied_row s)
  rw [hm.out] at HR
  clear hm
  have hpk : ∀ w : World, (Go.sizeOf 5).run Tryd.prog w = .ok 1 w := Tryd.sizeOf5
  generalize nbN s.size = N at *
  have hN : (N : Int) * 64 = ((64 * N : Nat) : Int) := by omega
  have hNI : (N : Int) < 1000000 := by omega
  have hN0 : (0 : Int) ≤ (N : Int) := by omega
  generalize 64 * N = n at *
  have hsI : ((s.size : Nat) : Int) ≤ 1048576 := by omega
  have HR : Hid (Ret Tryd.prog 23 #[.int .i64 ((s.size : Int) + 9), .int .i64 64] (.int .i64 (N : Int))) := Lib.hid (by have := HR.out; rw [Int.natCast_add] at this; exact this)
  go_enter Tryd.func18, Tryd.ntmps18
  go_wp2_with fail
  refine (HR.out _).mono ?_
  rintro e w1 ⟨rfl, q⟩
  have hmk := run_mkB w1 n (by omega)
  have LM := Has.new w1 5 (ubC n fun _ => 0)
  have Q : Below w.heap.size w (w1.alloc (.cells (ubC n fun _ => 0) 5)) := q.alloc q.size _
  have hgw : w.heap.size ≤ w1.heap.size := q.size
  have hcp := run_copy_string (P := Tryd.prog) (w1.alloc (.cells (ubC n fun _ => 0) 5)) 26 9 3 5 w1.heap.size 0 n n s Tryd.underlying26 hpk (by omega)
    (fun j hj => by rw [Nat.zero_add, LM.cell j _ (ubC_get n _ j (by omega))]; rfl) (fun j _ => LM.frozen _)
  have LC := HCP.out n _ _ LM
  have Q2 := below_setCells hgw (s.data.toList.map fun x => Value.int .u8 (x.toNat : Int)) 0 _ Q
  have hin : goInt s.size = .int .i64 ((s.size : Nat) : Int) := rfl
  rw [hin] at hcp
  clear hin LM Q q HR HCP hpk
  obtain ⟨W2, hW2⟩ : ∃ W2, (w1.alloc (.cells (ubC n fun _ => 0) 5)).setCells w1.heap.size 0 (s.data.toList.map fun x => Value.int .u8 (x.toNat : Int)) = W2 := ⟨_, rfl⟩
  rw [hW2] at hcp LC Q2
  clear hW2
  have hsn : s.size < n := by omega
  have hsnI : ((s.size : Nat) : Int) < (n : Int) := by omega
  have kc := LC.cell _ _ (ubC_get n _ s.size hsn)
  have kz := LC.frozen s.size
  have N1 := LC.set s.size (.int .u8 ((128 : Nat) : Int))
  rw [ubC_set n _ (pdK s 0) s.size 128 H0.out] at N1
  have HN1 := Lib.hid N1
  have HQ := Lib.hid (Q2.setCell (p := ⟨w1.heap.size, s.size, none⟩) hgw (.int .u8 ((128 : Nat) : Int)))
  have HGW := Lib.hid hgw
  have HNN := Lib.hid (And.intro hn0 hn1)
  clear LC Q2 N1 H0 hn0 hn1 hs hgw
  go_wp2_with fail
  go_loopw [23] (fun i wr => ∃ k : Nat, k ≤ 8 ∧ i = .int .i64 (k : Int) ∧ Has wr w1.heap.size 5 (ubC n (pdK s k)) ∧ Below w.heap.size w wr) (fun i _ => 8 - (intOf i).toNat)
  case atStart => exact ⟨0, by omega, rfl, HN1.out, HQ.out⟩
  case round =>
    clear HN1 HQ hcp hmk kc kz
    obtain ⟨k, hk, rfl, L, Q⟩ := hrel
    by_cases hlt : k < 8
    · have hkI : (k : Int) < 8 := by omega
      have hk0 : (0 : Int) ≤ (k : Int) := by omega
      have e3 : (k : Int) * 8 = ((8 * k : Nat) : Int) := by omega
      have ei : (n : Int) - 1 - (k : Int) = ((n - 1 - k : Nat) : Int) := by have := HNN.out.1; omega
      have hil : n - 1 - k < n := by have := HNN.out.1; omega
      have hw : IntKind.u8.wrap (((s.size : Nat) : Int) * 8 / 2 ^ (8 * k)) = ((8 * s.size / 2 ^ (8 * k) % 256 : Nat) : Int) := by
        rw [show ((s.size : Nat) : Int) * 8 / 2 ^ (8 * k) = ((8 * s.size / 2 ^ (8 * k) : Nat) : Int) by rw [show ((s.size : Nat) : Int) * 8 = ((8 * s.size : Nat) : Int) by omega, Int.natCast_ediv, Int.natCast_pow]; rfl]
        generalize 8 * s.size / 2 ^ (8 * k) = q
        rw [IntKind.wrap_u8']
        omega
      have kc := L.cell _ _ (ubC_get n _ (n - 1 - k) hil)
      have kz := L.frozen (n - 1 - k)
      have N1 := L.set (n - 1 - k) (.int .u8 ((8 * s.size / 2 ^ (8 * k) % 256 : Nat) : Int))
      rw [ubC_set n _ (pdK s (k + 1)) (n - 1 - k) _ (HS.out k hlt)] at N1
      have H1 := Lib.hid N1
      have H2 := Lib.hid (Q.setCell (p := ⟨w1.heap.size, n - 1 - k, none⟩) HGW.out (.int .u8 ((8 * s.size / 2 ^ (8 * k) % 256 : Nat) : Int)))
      have hiI : ((n - 1 - k : Nat) : Int) < (n : Int) := by omega
      have hs8 : 8 * k < 64 := by omega
      have HLT := Lib.hid hlt
      clear L Q N1 HS hk hlt hil
      generalize 8 * s.size / 2 ^ (8 * k) % 256 = r at *
      generalize 8 * k = k8 at *
      generalize n - 1 - k = i1 at *
      have hs8I : (k8 : Int) < 64 := by omega
      clear hs8
      go_wp2
      go_roundw
      case rel => exact ⟨k + 1, by have := HLT.out; omega, by simp, H1.out, H2.out⟩
      case measure => simp [intOf]; omega
    · obtain rfl : k = 8 := by omega
      have HL := Lib.hid L
      have HQ := Lib.hid Q
      clear L Q hk hlt
      go_wp2
      go_ret
      exact ⟨_, rfl, HGW.out, by rw [HP.out]; exact HL.out, HQ.out⟩
end Go.Proofs.YtnjmhcooejcehaaDoor
