/- The document's own text of a word. For every word. -/
import Derived.Test.YtgejdkiehcpinaaDoorRefE
namespace Go.Proofs.YtgejdkiehcpinaaDoor
open Go Go.RowKit Go.Shelf
attribute [local go_sem] Oper.semAt_some Grows wide_fn

theorem lets_cut : ∀ v : Fin 16, (⟨#[48, 49, 50, 51, 52, 53, 54, 55, 56, 57, 97, 98, 99, 100, 101, 102]⟩ : ByteArray).extract v.val (v.val + 1) = ⟨#[UInt8.ofNat (letter v.val)]⟩ := by decide
/-- The text of the k lowest bytes. -/
def hxL (a k : Nat) : List UInt8 := (hexL ((List.range k).map fun j => dg a (k - 1 - j))).map fun n => UInt8.ofNat n.toNat
theorem hxL_succ (a k : Nat) : hxL a (k + 1) = [UInt8.ofNat (letter (dg a k / 16)), UInt8.ofNat (letter (dg a k % 16))] ++ hxL a k := by
  unfold hxL
  rw [List.range_succ_eq_map, List.map_cons, List.map_map]
  have e : ((fun j => dg a (k + 1 - 1 - j)) ∘ Nat.succ) = fun j => dg a (k - 1 - j) := by
    funext j
    show dg a (k + 1 - 1 - (j + 1)) = _
    congr 1
    omega
  rw [e]
  rfl
theorem hxL_length (a k : Nat) : (hxL a k).length = 2 * k := by simp [hxL, hexL_length]
theorem hxL_all (a : Nat) : hxL a 32 = hexText a := by
  unfold hxL hexText byteL
  rfl
/-- Without noughts ahead, but for one letter. -/
def trL : List UInt8 → List UInt8
  | c :: d :: r => if c = 48 then trL (d :: r) else c :: d :: r
  | l => l
theorem trL_noNoughts : ∀ l : List UInt8, l ≠ [] → trL l = if noNoughts l = [] then [48] else noNoughts l
  | [], h => absurd rfl h
  | [c], _ => by
    unfold trL noNoughts
    by_cases h : c = 48
    · subst h; simp [noNoughts]
    · simp [h]
  | c :: d :: r, _ => by
    unfold trL
    have ih := trL_noNoughts (d :: r) (by simp)
    by_cases h : c = 48
    · subst h
      rw [if_pos rfl, ih]
      rfl
    · rw [if_neg h]
      have : noNoughts (c :: d :: r) = c :: d :: r := by rw [noNoughts, if_neg h]
      rw [this, if_neg (by simp)]
theorem trL_hex (a : Nat) : [48, 120] ++ trL (hexText a) = hexStr a := by
  unfold hexStr
  rw [trL_noNoughts]
  intro e
  have : (hexText a).length = 64 := by unfold hexText; simp [hexL_length, byteL_length]
  rw [e] at this
  cases this
theorem trL_step (s : ByteArray) (h : 1 < s.size) (h0 : s[0]'(by omega) = 48) : trL (s.extract 1 s.size).data.toList = trL s.data.toList := by
  rw [extract_list]
  have hl : s.data.toList.length = s.size := by simp
  have h1 : s.data.toList[0]'(by omega) = 48 := h0
  cases hd : s.data.toList with
  | nil => rw [hd] at hl; simp at hl; omega
  | cons c r =>
    cases r with
    | nil => rw [hd] at hl; simp at hl; omega
    | cons d r =>
      simp only [hd, List.getElem_cons_zero] at h1
      subst h1
      rw [List.take_of_length_le (by rw [hd] at hl; simp at hl ⊢; omega)]
      show _ = if (48 : UInt8) = 48 then trL (d :: r) else _
      rw [if_pos rfl]
      rfl
theorem trL_stay (s : ByteArray) (h : s.size ≤ 1 ∨ ∃ h0 : 0 < s.size, s[0] ≠ 48) : trL s.data.toList = s.data.toList := by
  have hl : s.data.toList.length = s.size := by simp
  cases hd : s.data.toList with
  | nil => rfl
  | cons c r =>
    cases r with
    | nil => rfl
    | cons d r =>
      rcases h with h | ⟨h0, h1⟩
      · rw [hd] at hl; simp at hl; omega
      · have h2 : s.data.toList[0]'(by omega) ≠ 48 := h1
        simp only [hd, List.getElem_cons_zero] at h2
        unfold trL
        rw [if_neg h2]

set_option maxRecDepth 100000 in
set_option maxHeartbeats 4000000 in
theorem refHex_any (a : Nat) (w : World) : Calls Tryd.prog 24 #[wv a] w fun e w' => (∃ t : ByteArray, e = .returned (.string t) ∧ t.data.toList = hexStr a) ∧ Below w.heap.size w w' := by
  have B0 := (Below.refl _ w).alloc (Nat.le_refl _) (.cells #[.int .u64 (lim a 0), .int .u64 (lim a 1), .int .u64 (lim a 2), .int .u64 (lim a 3)] 24)
  have DA := digits_any a
  have HT := Lib.hid (trL_hex a)
  have HALL := Lib.hid (hxL_all a)
  unfold wv at DA ⊢
  go_enter Tryd.func24, Tryd.ntmps24
  go_wp2_with fail
  obtain ⟨W0, hW0⟩ : ∃ W0, w.alloc (.cells #[.int .u64 (lim a 0), .int .u64 (lim a 1), .int .u64 (lim a 2), .int .u64 (lim a 3)] 24) = W0 := ⟨_, rfl⟩
  rw [hW0] at B0 ⊢
  clear hW0
  refine (DA _).mono ?_
  rintro e w1 ⟨g, cap, rfl, hg, X1, q⟩
  have B1 := B0.trans (q.mono B0.size)
  clear q B0 DA hg
  go_wp2
  go_loopw [4, 5] (fun t i wr => ∃ (k : Nat) (s : ByteArray), k ≤ 32 ∧ i = .int .i64 (k : Int) ∧ t = .string s ∧ s.data.toList = hxL a k ∧ IntsAt wr g 32 (fun j => (dg a j : Int)) ∧ Below w.heap.size w wr) (fun _ i _ => 32 - (intOf i).toNat)
  case atStart => exact ⟨0, _, by omega, rfl, rfl, rfl, X1, B1⟩
  case round =>
    obtain ⟨k, s, hk, rfl, rfl, hs, xx, hB⟩ := hrel
    clear X1 B1
    by_cases hlt : k < 32
    · have hkI : (k : Int) < 32 := by omega
      have hk0 : (0 : Int) ≤ (k : Int) := by omega
      have hlen : s.size = 2 * k := by
        have : s.data.toList.length = s.size := by simp
        rw [← this, hs, hxL_length]
      have hz0 : (0 : Int) ≤ (s.size : Int) := by omega
      have hz1 : (s.size : Int) ≤ 64 := by omega
      have db := dg_lt a k
      have hst := hxL_succ a k
      rw [← hs] at hst
      have HST := Lib.hid hst
      have hq := lets_cut ⟨dg a k / 16, by omega⟩
      have hr := lets_cut ⟨dg a k % 16, by omega⟩
      simp only [] at hq hr
      have HK := Lib.hid hlt
      have HX := Lib.hid xx
      have HB := Lib.hid hB
      have ec : ∀ x : Ext wr, x.w.cell? ⟨g, k, none⟩ = some (.int .i64 (dg a k : Int)) := fun x => (HX.out.later x.below).cell HK.out
      have b0 : (0 : Int) ≤ (dg a k : Int) := by omega
      have b1 : (dg a k : Int) < 256 := by omega
      have q1 : (dg a k : Int).tdiv 16 = ((dg a k / 16 : Nat) : Int) := by rw [Int.tdiv_eq_ediv_of_nonneg b0]; omega
      have r1 : (dg a k : Int).tmod 16 = ((dg a k % 16 : Nat) : Int) := by rw [Int.tmod_eq_emod_of_nonneg b0]; omega
      have q2 : dg a k / 16 < 16 := by omega
      have r2 : dg a k % 16 < 16 := by omega
      generalize dg a k / 16 = qq at *
      generalize dg a k % 16 = rr at *
      generalize (dg a k : Int) = b at *
      have q3 : (0 : Int) ≤ (qq : Int) := by omega
      have q4 : (qq : Int) < 16 := by omega
      have q5 : (qq : Int) + 1 ≤ 16 := by omega
      have q6 : (qq : Int) ≤ (qq : Int) + 1 := by omega
      have r3 : (0 : Int) ≤ (rr : Int) := by omega
      have r4 : (rr : Int) < 16 := by omega
      have r5 : (rr : Int) + 1 ≤ 16 := by omega
      have r6 : (rr : Int) ≤ (rr : Int) + 1 := by omega
      clear hk hlt hs xx hB hlen db hst q2 r2
      go_wp2
      refine wp_region_quietR (C := Grows wr) (by kernel_rfl) (by kernel_rfl) (grows_refl wr) ?_
      repeat (go_big_quiet_step (fail))
      refine wpQuiet_nil ?_
      rintro _ ⟨x, rfl⟩
      have N1 := Lib.hid (HX.out.later x.below)
      have N2 := Lib.hid (HB.out.trans (x.below.mono HB.out.size))
      go_wp2
      go_roundw
      case rel => exact ⟨k + 1, _, HK.out, by simp, rfl, by rw [HST.out, ByteArray.data_append, ByteArray.data_append]; simp, N1.out, N2.out⟩
      case measure => have := HK.out; simp [intOf]; omega
    · obtain rfl : k = 32 := by omega
      rw [HALL.out] at hs
      have HB := Lib.hid hB
      have hlen : s.size ≤ 64 := by
        have h1 : s.data.toList.length = s.size := by simp
        rw [← h1, hs, ← HALL.out, hxL_length]
        omega
      have hs' : trL s.data.toList = trL (hexText a) := by rw [hs]
      clear hk hlt hs xx hB
      obtain ⟨wo, rfl⟩ : ∃ wo : World, wo = wr := ⟨_, rfl⟩
      go_wp2
      go_loopw [4] (fun t wr => ∃ s : ByteArray, t = .string s ∧ s.size ≤ 64 ∧ trL s.data.toList = trL (hexText a) ∧ Below w.heap.size w wr) (fun t _ => match t with | .string s => s.size | _ => 0)
      case atStart => exact ⟨s, rfl, hlen, hs', HB.out⟩
      case round =>
        clear hlen hs' HB
        obtain ⟨s, rfl, hlen, hs, hB⟩ := hrel
        have HB := Lib.hid hB
        have z0 : (0 : Int) ≤ (s.size : Int) := by omega
        have z9 : (s.size : Int) ≤ 64 := by omega
        by_cases h1 : 1 < s.size
        · have hpos : 0 < s.size := by omega
          have z1 : (1 : Int) < (s.size : Int) := by omega
          have z2 : (0 : Int) < (s.size : Int) := by omega
          have z3 : (1 : Int) ≤ (s.size : Int) := by omega
          by_cases h0 : s[0]'hpos = 48
          · have e0 : ((s[0]'hpos).toNat : Int) = 48 := by rw [h0]; rfl
            have HS := Lib.hid ((trL_step s h1 h0).trans hs)
            have HL := Lib.hid hlen
            have H1 := Lib.hid h1
            clear hs hB hlen h0 h1
            go_wp2
            go_roundw
            case rel => exact ⟨_, rfl, by have := HL.out; rw [ByteArray.size_extract]; omega, HS.out, HB.out⟩
            case measure => have := H1.out; simp [ByteArray.size_extract]; omega
          · have e0 : ¬ ((s[0]'hpos).toNat : Int) = 48 := fun e => h0 (UInt8.toNat_inj.1 (by show _ = 48; omega))
            have e1 : (((s[0]'hpos).toNat : Int) == 48) = false := by simpa using e0
            have HS := Lib.hid ((trL_stay s (.inr ⟨by omega, h0⟩)).symm.trans hs)
            clear hs hB hlen h0 h1
            go_wp2
            go_ret
            refine ⟨⟨_, rfl, ?_⟩, HB.out⟩
            rw [ByteArray.data_append, ← HT.out, ← HS.out]
            simp
        · have z1 : ¬ (1 : Int) < (s.size : Int) := by omega
          have z2 : (s.size : Int) ≤ 1 := by omega
          have HS := Lib.hid ((trL_stay s (.inl (by omega))).symm.trans hs)
          clear hs hB hlen h1
          go_wp2
          go_ret
          refine ⟨⟨_, rfl, ?_⟩, HB.out⟩
          rw [ByteArray.data_append, ← HT.out, ← HS.out]
          simp
theorem refHex_ret (a : Nat) : Ret Tryd.prog 24 #[wv a] (.string ⟨(hexStr a).toArray⟩) := by
  intro w
  refine (refHex_any a w).mono ?_
  rintro e w' ⟨⟨t, rfl, ht⟩, hb⟩
  refine ⟨?_, hb⟩
  congr 2
  cases t with
  | mk data =>
    simp only [] at ht
    rw [← ht]
end Go.Proofs.YtgejdkiehcpinaaDoor
