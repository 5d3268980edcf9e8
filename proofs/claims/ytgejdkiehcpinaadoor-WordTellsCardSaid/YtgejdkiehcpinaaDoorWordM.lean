/- TrimLeft at 0; the first of two texts that is not empty. For every text. -/
import Derived.Test.YtgejdkiehcpinaaDoorWordL
namespace Go.Proofs.YtgejdkiehcpinaaDoor
open Go Go.RowKit Go.Shelf
attribute [local go_sem] Oper.semAt_some Grows wide_fn

/-- Without the noughts ahead. -/
def noNoughts : List UInt8 → List UInt8
  | [] => []
  | c :: r => if c = 48 then noNoughts r else c :: r

set_option maxRecDepth 100000 in
set_option maxHeartbeats 1000000 in
theorem trimByte (s : ByteArray) (hs : s.size ≤ 140737488355328) (w : World) : Calls Tryd.prog 54 #[.string s, .int .u8 48] w fun e w' => (∃ t : ByteArray, e = .returned (.string t) ∧ t.data.toList = noNoughts s.data.toList) ∧ w = w' := by
  go_enter Tryd.func54, Tryd.ntmps54
  go_wp2
  go_loop [0] (fun x => ∃ t : ByteArray, x = .string t ∧ t.size ≤ 140737488355328 ∧ noNoughts t.data.toList = noNoughts s.data.toList) (fun x => match x with | .string t => t.size | _ => 0)
  case atStart => exact ⟨s, rfl, hs, rfl⟩
  case round =>
    obtain ⟨t, rfl, hts, hn⟩ := hrel
    have hl : t.data.toList.length = t.size := by simp
    by_cases h0 : t.size = 0
    · have z0 : ¬ (0 : Int) < (t.size : Int) := by omega
      have HN : Hid (t.data.toList = noNoughts s.data.toList) := by
        rw [← hn]
        have : t.data.toList = [] := List.eq_nil_of_length_eq_zero (by rw [hl]; exact h0)
        rw [this]; rfl
      clear hn hl h0
      go_wp2
      go_ret
      exact ⟨⟨t, rfl, HN.out⟩, rfl⟩
    · obtain ⟨c, r, hcr⟩ : ∃ c r, t.data.toList = c :: r := by
        cases hx : t.data.toList with
        | nil => rw [hx] at hl; simp at hl; omega
        | cons c r => exact ⟨c, r, rfl⟩
      have hlt : 0 < t.size := by omega
      have hc0 : t[0] = c := by
        have : t.data.toList[0]? = some c := by rw [hcr]; rfl
        have h2 : t.data.toList[0]? = some t[0] := by rw [List.getElem?_eq_getElem (by rw [hl]; exact hlt)]; rfl
        exact Option.some.inj (h2.symm.trans this)
      have hltI : (0 : Int) < (t.size : Int) := by omega
      have z1 : (1 : Int) ≤ (t.size : Int) := by omega
      by_cases hc : c = 48
      · subst hc
        have e4 : ((t[0].toNat : Int) == 48) = true := by rw [hc0]; rfl
        have HN : Hid (noNoughts (t.extract 1 t.size).data.toList = noNoughts s.data.toList) := by
          rw [← hn, extract_list, List.take_of_length_le (by rw [List.length_drop, hl]; omega), hcr]
          rfl
        have HS : Hid ((t.extract 1 t.size).size ≤ 140737488355328 ∧ (t.extract 1 t.size).size < t.size) := by
          rw [ByteArray.size_extract]; exact ⟨by omega, by omega⟩
        clear hn hl h0 hcr hc0
        go_wp2
        go_round
        case rel => exact ⟨_, rfl, HS.out.1, HN.out⟩
        case measure => exact HS.out.2
      · have e4 : ((t[0].toNat : Int) == 48) = false := by
          rw [hc0, beq_eq_false_iff_ne]
          intro e
          have : c.toNat = 48 := by omega
          exact hc (UInt8.toNat_inj.1 (by rw [this]; rfl))
        have HN : Hid (t.data.toList = noNoughts s.data.toList) := by
          rw [← hn, hcr]
          exact (if_neg hc).symm
        clear hn hl h0 hcr hc0
        go_wp2
        go_ret
        exact ⟨⟨t, rfl, HN.out⟩, rfl⟩

set_option maxRecDepth 100000 in
set_option maxHeartbeats 1000000 in
theorem trim_any (s : ByteArray) (hs : s.size ≤ 140737488355328) (w : World) : Calls Tryd.prog 42 #[.string s, .string ⟨#[48]⟩] w fun e w' => (∃ t : ByteArray, e = .returned (.string t) ∧ t.data.toList = noNoughts s.data.toList) ∧ w = w' := by
  have HT := Lib.hid (trimByte s hs)
  by_cases h0 : s.toList = []
  · have e2 : s.toList.isEmpty = true := by rw [h0]; rfl
    have HN : Hid (s.data.toList = noNoughts s.data.toList) := by
      rw [ByteArray.toList_eq] at h0
      rw [h0]; rfl
    have HO := Lib.hid h0
    clear h0
    go_enter Tryd.func42, Tryd.ntmps42
    go_wp2
    go_ret
    exact ⟨⟨s, rfl, HN.out⟩, rfl⟩
  · have e2 : s.toList.isEmpty = false := by
      cases h : s.toList with
      | nil => exact absurd h h0
      | cons _ _ => rfl
    go_enter Tryd.func42, Tryd.ntmps42
    go_wp2_with (go_at_call 54; refine (HT.out _).mono ?_; rintro e w' ⟨⟨t, rfl, ht⟩, rfl⟩; replace ht := Lib.hid ht)
    go_ret
    exact ⟨⟨_, rfl, Hid.out (by assumption)⟩, rfl⟩


set_option maxRecDepth 100000 in
set_option maxHeartbeats 1000000 in
theorem or_str (a b : ByteArray) (g cap : Nat) (w : World) (h0 : w.cell? ⟨g, 0, none⟩ = some (.string a)) (h1 : w.cell? ⟨g, 1, none⟩ = some (.string b)) (hb : ¬ b.toList = []) :
    Calls Tryd.prog 41 #[.slice (some ⟨g, 0, none⟩) 2 cap] w fun e w' => e = .returned (.string (if a.toList = [] then b else a)) ∧ w = w' := by
  have eb : b.toList.isEmpty = false := by
    cases h : b.toList with
    | nil => exact absurd h hb
    | cons _ _ => rfl
  by_cases ha : a.toList = []
  · rw [if_pos ha]
    have ea : a.toList.isEmpty = true := by rw [ha]; rfl
    have HA := Lib.hid ha
    clear ha
    go_enter Tryd.func41, Tryd.ntmps41
    go_wp2
    go_loop [8] (fun i => ∃ k : Nat, k ≤ 1 ∧ i = .int .i64 k) (fun i => 2 - (intOf i).toNat)
    case atStart => exact ⟨0, by omega, rfl⟩
    case round =>
      obtain ⟨k, hk, rfl⟩ := hrel
      by_cases k0 : k = 0
      · subst k0
        go_wp2
        go_round
        case rel => exact ⟨1, by omega, by simp⟩
        case measure => simp [intOf]
      · obtain rfl : k = 1 := by omega
        go_wp2
        go_ret
        exact ⟨rfl, rfl⟩
  · rw [if_neg ha]
    have ea : a.toList.isEmpty = false := by
      cases h : a.toList with
      | nil => exact absurd h ha
      | cons _ _ => rfl
    go_enter Tryd.func41, Tryd.ntmps41
    go_wp2
    go_loop [8] (fun i => i = .int .i64 0) (fun i => 2 - (intOf i).toNat)
    case atStart => rfl
    case round =>
      obtain rfl := hrel
      go_wp2
      go_ret
      exact ⟨rfl, rfl⟩
end Go.Proofs.YtgejdkiehcpinaaDoor
