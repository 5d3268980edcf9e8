/- What the laws of package keccak share: pick, texts of noughts, pads. -/
import Derived.Test.YtobdjakflknlcaaDoorKecP
namespace Go.Proofs.YtobdjakflknlcaaDoor
open Go Go.RowKit Go.Shelf
attribute [local go_sem] Oper.semAt_some Grows wide_fn field0

/-- What a raw number speaks of, of m things. -/
def pickN (c m : Int) : Int := (if c < 0 then -(c + 1) else c) % m
theorem pickN_range (c m : Int) (hm : 0 < m) : 0 ≤ pickN c m ∧ pickN c m < m := by
  unfold pickN
  exact ⟨Int.emod_nonneg _ (by omega), Int.emod_lt_of_pos _ hm⟩
theorem pick_ret (c : Int) (hc : I64 c) (m : Int) (hm : 0 < m) (hm2 : m ≤ 4611686018427387903) : Ret Tryd.prog 7 #[.int .i64 c, .int .i64 m] (.int .i64 (pickN c m)) := by
  refine Ret.of_same fun w => ?_
  unfold I64 at hc
  unfold pickN
  by_cases h : c < 0
  · rw [if_pos h]
    have h0 : (0 : Int) ≤ -(c + 1) := by omega
    have h1 : -(c + 1) < 9223372036854775808 := by omega
    have q0 := Int.emod_nonneg (-(c + 1)) (show m ≠ 0 by omega)
    have q1 := Int.emod_lt_of_pos (-(c + 1)) hm
    have e := Int.tmod_eq_emod_of_nonneg h0 (b := m)
    go_enter Tryd.func7, Tryd.ntmps7
    go_wp2
    go_ret
    exact ⟨rfl, rfl⟩
  · rw [if_neg h]
    have q0 := Int.emod_nonneg c (show m ≠ 0 by omega)
    have q1 := Int.emod_lt_of_pos c hm
    have e := Int.tmod_eq_emod_of_nonneg (show 0 ≤ c by omega) (b := m)
    go_enter Tryd.func7, Tryd.ntmps7
    go_wp2
    go_ret
    exact ⟨rfl, rfl⟩

theorem bytes_ext {p q : ByteArray} (h : p.toList = q.toList) : p = q := by
  rw [ByteArray.toList_eq, ByteArray.toList_eq] at h
  exact ByteArray.ext (Array.toList_inj.1 h)
theorem beq_of {p q : ByteArray} (h : p = q) : (p.toList == q.toList) = true := by rw [h]; exact beq_self_eq_true _
theorem beq_of_ne {p q : ByteArray} (h : ¬ p = q) : (p.toList == q.toList) = false := beq_eq_false_iff_ne.2 (fun e => h (bytes_ext e))
/-- A text of noughts. -/
def zS (a : Nat) : ByteArray := ⟨((List.range a).map fun _ => UInt8.ofNat 0).toArray⟩
theorem zS_size (a : Nat) : (zS a).size = a := by
  show ((List.range a).map fun _ => UInt8.ofNat 0).toArray.size = a
  simp
theorem zS_list (a : Nat) : (zS a).data.toList = List.replicate a 0 := by
  show (List.range a).map (fun _ => UInt8.ofNat 0) = _
  simp [List.map_const']
theorem pad_at (s : ByteArray) (j : Nat) (h : s.size + j < (padS s).size) : ((padS s)[s.size + j]'h).toNat = pcN (pmN s) j := by
  have h2 : j < pmN s + 1 := by
    have : (padS s).size = s.size + (pmN s + 1) := by
      unfold padS
      rw [ByteArray.size_append]
      show s.size + (pcL (pmN s)).toArray.size = _
      simp [pcL]
    omega
  have e : (padS s).data.toList[s.size + j]? = some (UInt8.ofNat (pcN (pmN s) j)) := by
    rw [padS_list, List.getElem?_append_right (by simp)]
    simp [pcL, h2]
  have h3 : s.size + j < (padS s).data.size := h
  rw [Array.getElem?_toList, Array.getElem?_eq_getElem h3] at e
  have e2 : (padS s)[s.size + j]'h = UInt8.ofNat (pcN (pmN s) j) := Option.some.inj e
  rw [e2, UInt8.toNat_ofNat', Nat.mod_eq_of_lt (show pcN (pmN s) j < 2 ^ 8 from pcN_lt _ _)]
theorem pad_eq (s t : ByteArray) : padS s = padS t ↔ s = t := by
  constructor
  · intro h
    have hl : (padS s).data.toList = (padS t).data.toList := by rw [h]
    rw [padS_list, padS_list] at hl
    have hz : (padS s).size = (padS t).size := by rw [h]
    rw [padS_size, padS_size] at hz
    -- unlike lengths: what is the longer one's text's last but its own beginning
    have hrev : ∀ (a b : ByteArray), a.size ≤ b.size → a.data.toList ++ pcL (pmN a) = b.data.toList ++ pcL (pmN b) → a.size / 136 = b.size / 136 → a.size = b.size := fun a b hab he hq => by
      rcases Nat.lt_or_ge a.size b.size with hlt | hge
      · exfalso
        have h1 : (a.data.toList ++ pcL (pmN a))[b.size]? = (b.data.toList ++ pcL (pmN b))[b.size]? := by rw [he]
        rw [List.getElem?_append_right (by simp; omega), List.getElem?_append_right (by simp)] at h1
        have e1 : b.size - a.data.toList.length = b.size - a.size := by simp
        have e2 : b.size - b.data.toList.length = 0 := by simp
        rw [e1, e2] at h1
        have hb0 : (pcL (pmN b))[0]? = some (UInt8.ofNat (pcN (pmN b) 0)) := by simp [pcL]
        have hk : b.size - a.size < pmN a + 1 := by unfold pmN; omega
        have ha0 : (pcL (pmN a))[b.size - a.size]? = some (UInt8.ofNat (pcN (pmN a) (b.size - a.size))) := by simp [pcL, hk]
        rw [hb0, ha0] at h1
        have h2 := congrArg UInt8.toNat (Option.some.inj h1)
        rw [UInt8.toNat_ofNat', UInt8.toNat_ofNat', Nat.mod_eq_of_lt (show _ < 2 ^ 8 from pcN_lt _ _), Nat.mod_eq_of_lt (show _ < 2 ^ 8 from pcN_lt _ _)] at h2
        unfold pcN at h2
        rw [if_neg (show ¬ b.size - a.size = 0 by omega), if_pos rfl] at h2
        split at h2 <;> split at h2 <;> omega
      · omega
    have hsz : s.size = t.size := by
      rcases Nat.le_total s.size t.size with h1 | h1
      · exact hrev s t h1 hl (by omega)
      · exact (hrev t s h1 hl.symm (by omega)).symm
    have hd : s.data.toList = t.data.toList := (List.append_inj hl (by simpa using hsz)).1
    exact ByteArray.ext (Array.toList_inj.1 hd)
  · rintro rfl; rfl
theorem zS_eq (a b : Nat) : zS a = zS b ↔ a = b := ⟨fun h => by have := congrArg ByteArray.size h; rwa [zS_size, zS_size] at this, fun h => by rw [h]⟩
theorem run_str (W : World) (n : Nat) (hn : n ≤ 1073741824) : (convert 27 9 (.slice (some ⟨W.heap.size, 0, none⟩) n n)).run Tryd.prog (W.alloc (.cells (ubC n fun _ => 0) 5)) = .ok (.string (zS n)) (W.alloc (.cells (ubC n fun _ => 0) 5)) :=
  conv_back (cap := n) (A := fun _ => 0) (fun _ => by omega) (Has.new W _ _)
end Go.Proofs.YtobdjakflknlcaaDoor
