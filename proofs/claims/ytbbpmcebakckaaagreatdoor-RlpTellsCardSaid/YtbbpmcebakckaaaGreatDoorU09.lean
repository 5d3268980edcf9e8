import Derived.Test.YtbbpmcebakckaaaGreatDoorU05
import Derived.Test.YtbbpmcebakckaaaGreatDoorU04
import Derived.Test.YtbbpmcebakckaaaGreatDoorU08
import Derived.Lib.TrimByte
import Derived.Lib.Strings
import Derived.Test.YtbbpmcebakckaaaGreatDoorU03
import Derived.TacticsIn
import Derived.LoopIn
/- Text and Number: a number's digits, without a nought ahead. Conditions: none. -/
namespace Go.Proofs.YtbbpmcebakckaaaGreatDoor
open Go Go.RowKit
attribute [local go_sem] Oper.semAt_some Grows wide_fn

theorem val256_oct : ∀ (l : List UInt8) (n : Nat), val256 n l = octVal n l
  | [], _ => rfl
  | _ :: r, n => val256_oct r _
theorem noNought_val : ∀ (l : List UInt8), val256 0 (noNought l) = val256 0 l
  | [] => rfl
  | c :: r => by
    unfold noNought
    by_cases h : c = 0
    · rw [if_pos h, noNought_val r, h]; rfl
    · rw [if_neg h]
theorem noNought_bare : ∀ (l : List UInt8), Bare (noNought l)
  | [] => by intro c r h; cases h
  | c :: r => by
    unfold noNought
    by_cases h : c = 0
    · rw [if_pos h]; exact noNought_bare r
    · rw [if_neg h]
      intro x y e
      injection e with e1 _
      rw [← e1]; exact h
theorem noNought_digs (l : List UInt8) : noNought l = digs (val256 0 l) := by
  rw [← noNought_val l, digs_val _ _ rfl (noNought_bare l)]
theorem digs_bytes (a : Nat) (ha : W256 a) : noNought (bytesOf a).data.toList = digs a := by
  rw [noNought_digs, bytesOf_list, val256_oct, octVal_bytes a ha]
theorem noNought_drop {l : List UInt8} {k : Nat} {c : UInt8} (h : l[k]? = some c) (hc : c = 0) : noNought (l.drop k) = noNought (l.drop (k + 1)) := by
  obtain ⟨hl, he⟩ := List.getElem?_eq_some_iff.1 h
  rw [List.drop_eq_getElem_cons hl, noNought, he, if_pos hc]
theorem noNought_stop {l : List UInt8} {k : Nat} {c : UInt8} (h : l[k]? = some c) (hc : c ≠ 0) : noNought (l.drop k) = l.drop k := by
  obtain ⟨hl, he⟩ := List.getElem?_eq_some_iff.1 h
  rw [List.drop_eq_getElem_cons hl, noNought, he, if_neg hc]

/-- A text as a value. -/
abbrev strV (l : List UInt8) : Value := .string ⟨l.toArray⟩

set_option maxRecDepth 100000 in
set_option maxHeartbeats 2000000 in
theorem trimByte_ret (s : ByteArray) (w : World) : Calls Tryz.prog 43 #[.string s, .int .u8 0] w fun e w' => e = .returned (strV (noNought s.data.toList)) ∧ w = w' := by
  go_enter Tryz.func43, Tryz.ntmps43
  go_wp2
  go_loop [0] (fun v => ∃ k : Nat, k ≤ s.size ∧ v = .string ⟨(s.data.toList.drop k).toArray⟩ ∧ noNought (s.data.toList.drop k) = noNought s.data.toList) (fun v => Lib.strSize v)
  case atStart => exact ⟨0, Nat.zero_le _, by simp, by simp⟩
  case round =>
    obtain ⟨k, hk, rfl, hc⟩ := hrel
    have hts : (⟨(s.data.toList.drop k).toArray⟩ : ByteArray).size = s.size - k := by rw [Lib.size_mk, List.length_drop, ← Lib.size_eq]
    have hb0 : ∀ h, s.data.toList[k]? = some ((⟨(s.data.toList.drop k).toArray⟩ : ByteArray)[0]'h) := by
      intro h
      rw [← Lib.getElem_mk (s.data.toList.drop k) 0 h, List.getElem?_drop]
      rfl
    have hx1 : (⟨(s.data.toList.drop k).toArray⟩ : ByteArray).extract 1 (s.size - k) = ⟨(s.data.toList.drop (k + 1)).toArray⟩ := by
      rw [Lib.extract_mk, List.drop_drop, List.take_of_length_le (by simp; omega)]
    have hK := Lib.hid hc
    clear hc
    generalize ht : (⟨(s.data.toList.drop k).toArray⟩ : ByteArray) = t at hts hb0 hx1 ⊢
    have hK3 := Lib.hid ht
    clear ht
    have hkl := Lib.hid (show k ≤ s.data.toList.length by rw [← Lib.size_eq]; exact hk)
    by_cases h0 : 0 < t.size
    · have hbk := Lib.hid (hb0 h0)
      clear hb0
      by_cases heq : t[0]'h0 = 0
      · have heq' : ((t[0]'h0).toNat : Int) = 0 := by rw [heq]; rfl
        have hz := Lib.hid heq
        clear heq
        go_wp2
        refine ⟨⟨k + 1, by omega, rfl, ?_⟩, ?_⟩
        · rw [← noNought_drop hbk.out hz.out, hK.out]
        · simp only [Lib.strSize]
          rw [← hx1, ByteArray.size_extract]
          omega
      · have heq' : ¬ ((t[0]'h0).toNat : Int) = 0 := fun h => heq (UInt8.toNat_inj.1 (by show (t[0]'h0).toNat = 0; omega))
        have hz := Lib.hid heq
        clear heq
        go_wp2
        go_ret
        refine ⟨?_, rfl⟩
        have := noNought_stop hbk.out hz.out
        rw [hK.out] at this
        rw [this]
        show Ending.returned (.string t) = _
        rw [← hK3.out]
    · have hz : t.size = 0 := by omega
      have hE := Lib.hid (show noNought s.data.toList = s.data.toList.drop k by
        rw [← hK.out]
        have : s.data.toList.drop k = [] := List.drop_eq_nil_of_le (by rw [← Lib.size_eq]; omega)
        rw [this]; rfl)
      clear hb0
      go_wp2
      go_ret
      refine ⟨?_, rfl⟩
      rw [hE.out]
      show Ending.returned (.string t) = _
      rw [← hK3.out]

set_option maxRecDepth 100000 in
set_option maxHeartbeats 2000000 in
theorem trim_ret (s : ByteArray) (w : World) (hs : s.size ≤ 140737488355328) : Calls Tryz.prog 24 #[.string s, .string ⟨#[0]⟩] w fun e w' => e = .returned (strV (noNought s.data.toList)) ∧ w = w' := by
  have HT := Lib.hid (trimByte_ret s)
  by_cases h0 : s = ⟨#[]⟩
  · subst h0
    go_enter Tryz.func24, Tryz.ntmps24
    go_wp2_with fail
    go_ret
    exact ⟨rfl, rfl⟩
  · have hbe : (s.toList == []) = false := by
      have e : (ByteArray.mk #[]).toList = [] := by rw [ByteArray.toList_eq]
      rcases hx : (s.toList == []) with _ | _
      · rfl
      · have e2 := eq_of_beq hx
        rw [← e, ByteArray.toList_eq, ByteArray.toList_eq] at e2
        exact absurd (ByteArray.ext (Array.toList_inj.1 e2)) h0
    replace h0 := Lib.hid h0
    go_enter Tryz.func24, Tryz.ntmps24
    go_wp2_with fail
    refine (HT.out _).mono ?_
    rintro e w1 ⟨rfl, rfl⟩
    go_wp2_with fail
    go_ret
    exact ⟨rfl, rfl⟩

/-- A text as an item. -/
abbrev txtV (l : List UInt8) : Value := .agg #[.bool false, strV l, .slice none 0 0]

set_option maxRecDepth 100000 in
set_option maxHeartbeats 2000000 in
theorem text_any (s : ByteArray) (w : World) : Calls Tryz.prog 7 #[.string s] w fun e w' => e = .returned (.agg #[.bool false, .string s, .slice none 0 0]) ∧ Below w.heap.size w w' := by
  have LX := Has.new w 29 #[.bool false, .string s, .slice none 0 0]
  have Q := Lib.hid ((Below.refl w.heap.size w).alloc (Nat.le_refl _) (.cells #[.bool false, .string s, .slice none 0 0] 29))
  have k1 := LX.cell 0 _ rfl
  have k2 := LX.cell 1 _ rfl
  have k3 := LX.cell 2 _ rfl
  have NX := Has.new w 29 #[.bool false, .string ⟨#[]⟩, .slice none 0 0]
  have f0 := NX.frozen 0
  have f1 := NX.frozen 1
  have f2 := NX.frozen 2
  have x0 := NX.cell 0 _ rfl
  have x1 := NX.cell 1 _ rfl
  have x2 := NX.cell 2 _ rfl
  replace NX := Lib.hid NX
  replace LX := Lib.hid LX
  go_enter Tryz.func7, Tryz.ntmps7
  go_wp2_with fail
  exact bodyPost_ret (v := .agg #[.bool false, .string s, .slice none 0 0]) (by simp [results, Tryz.results7, go_sem, k1, k2, k3]) rfl ⟨rfl, Q.out⟩

set_option maxRecDepth 100000 in
set_option maxHeartbeats 2000000 in
theorem number_ret (a : Nat) (ha : W256 a) : Ret Tryz.prog 8 #[wv a] (txtV (digs a)) := by
  intro w
  have HB := Lib.hid (bytes_ret a ha)
  have HT := Lib.hid (show ∀ w, Calls Tryz.prog 24 #[.string (bytesOf a), .string ⟨#[0]⟩] w fun e w' => e = .returned (strV (digs a)) ∧ w = w' from fun w => by
    have := trim_ret (bytesOf a) w (by rw [bytesOf_size]; decide)
    rwa [digs_bytes a ha] at this)
  have HX := Lib.hid (text_any ⟨(digs a).toArray⟩)
  have hmx : Tryz.prog.follows .mixedOrders = true := by kernel_rfl
  unfold wv at HB ⊢
  generalize lim a 0 = l0 at *
  generalize lim a 1 = l1 at *
  generalize lim a 2 = l2 at *
  generalize lim a 3 = l3 at *
  generalize bytesOf a = bs at *
  generalize digs a = ds at *
  have LX := (Has.new w 25 #[.int .u64 l0, .int .u64 l1, .int .u64 l2, .int .u64 l3]).alloc (.cells #[.bool false, .string ⟨#[]⟩, .slice none 0 0] 29)
  have NX := Has.new (w.alloc (.cells #[.int .u64 l0, .int .u64 l1, .int .u64 l2, .int .u64 l3] 25)) 29 #[.bool false, .string ⟨#[]⟩, .slice none 0 0]
  have Q := ((Below.refl w.heap.size w).alloc (Nat.le_refl _) (.cells #[.int .u64 l0, .int .u64 l1, .int .u64 l2, .int .u64 l3] 25)).alloc (by simp) (.cells #[.bool false, .string ⟨#[]⟩, .slice none 0 0] 29)
  simp only [World.size_alloc] at NX
  obtain ⟨W1, hW1⟩ : ∃ W1, (w.alloc (.cells #[.int .u64 l0, .int .u64 l1, .int .u64 l2, .int .u64 l3] 25)).alloc (.cells #[.bool false, .string ⟨#[]⟩, .slice none 0 0] 29) = W1 := ⟨_, rfl⟩
  rw [hW1] at LX NX Q
  have k0 := LX.cell 0 _ rfl
  have k1 := LX.cell 1 _ rfl
  have k2 := LX.cell 2 _ rfl
  have k3 := LX.cell 3 _ rfl
  replace LX := Lib.hid LX
  replace Q := Lib.hid Q
  replace NX := Lib.hid NX
  go_enter Tryz.func8, Tryz.ntmps8
  go_wp2_with fail
  refine (HB.out _).mono ?_
  rintro _ W2 ⟨rfl, q⟩
  replace NX := Lib.hid (NX.out.later q)
  replace Q := Lib.hid (Q.out.trans (q.mono Q.out.size))
  clear k0 k1 k2 k3 LX q hW1
  go_wp2_with fail
  refine (HT.out _).mono ?_
  rintro _ W3 ⟨rfl, rfl⟩
  go_wp2_with fail
  refine (HX.out _).mono ?_
  rintro _ W4 ⟨rfl, q⟩
  replace NX := NX.out.later q
  replace Q := Lib.hid (Q.out.trans (q.mono Q.out.size))
  have f0 := NX.frozen 0
  have f1 := NX.frozen 1
  have f2 := NX.frozen 2
  have x0 := NX.cell 0 _ rfl
  have x1 := NX.cell 1 _ rfl
  have x2 := NX.cell 2 _ rfl
  replace NX := Lib.hid NX
  clear q
  go_wp2_with fail
  have S := ((NX.out.set 0 (.bool false)).set 1 (strV ds)).set 2 (.slice none 0 0)
  have y0 := S.cell 0 _ rfl
  have y1 := S.cell 1 _ rfl
  have y2 := S.cell 2 _ rfl
  exact bodyPost_ret (v := txtV ds) (by simp [results, Tryz.results8, go_sem, y0, y1, y2]) rfl ⟨rfl, ((Q.out.setCell (by simp) _).setCell (by simp) _).setCell (by simp) _⟩
end Go.Proofs.YtbbpmcebakckaaaGreatDoor

/- The reference's many: how many items there are in one, counted no further than so many. -/
namespace Go.Proofs.YtbbpmcebakckaaaGreatDoor
open Go Go.RowKit
attribute [local go_sem] Oper.semAt_some Grows wide_fn

theorem countL_take : ∀ (ks : List It) (k : Nat) (x : It), ks[k]? = some x → countL (ks.take (k + 1)) = countL (ks.take k) + countI x
  | [], k, x, h => by simp at h
  | y :: ks, 0, x, h => by
    simp at h
    subst h
    simp [countL]
  | y :: ks, k + 1, x, h => by
    have h' : ks[k]? = some x := by simpa using h
    have := countL_take ks k x h'
    simp only [List.take_succ_cons, countL] at this ⊢
    omega
theorem countL_part : ∀ (ks : List It) (k : Nat), countL (ks.take k) ≤ countL ks
  | [], k => by simp [countL]
  | y :: ks, 0 => by simp [countL]
  | y :: ks, k + 1 => by
    have := countL_part ks k
    simp only [List.take_succ_cons, countL]
    omega
def cutN (a m : Nat) : Nat := if a ≤ m then a else m
theorem cutN_le (a m : Nat) : cutN a m ≤ m := by unfold cutN; split <;> omega
theorem cutN_pos (a m : Nat) (ha : 1 ≤ a) (hm : 1 ≤ m) : 1 ≤ cutN a m := by unfold cutN; split <;> omega
theorem cutN_one (m : Nat) (hm : 1 ≤ m) : cutN 1 m = 1 := if_pos hm
theorem cutN_add (a c m : Nat) (h : cutN a m < m) : cutN a m + cutN c (m - cutN a m) = cutN (a + c) m := by
  unfold cutN at *
  by_cases h1 : a ≤ m
  · simp only [if_pos h1] at h ⊢
    split <;> split <;> omega
  · simp only [if_neg h1] at h
    omega
theorem cutN_full (a c m : Nat) (h : ¬ cutN a m < m) (hac : a ≤ c) : cutN a m = cutN c m := by
  unfold cutN at *
  by_cases h1 : a ≤ m
  · simp only [if_pos h1] at h ⊢
    split <;> omega
  · simp only [if_neg h1] at h ⊢
    rw [if_neg (by omega)]

def ManyAt (t : It) : Prop := ∀ (m : Nat), 1 ≤ m → m ≤ 1099511627776 → ∀ (v : Value) (W : World), ItemAt W t v →
  Calls Tryz.prog 35 #[v, .int .i64 (m : Int)] W fun e W' => e = .returned (.int .i64 ((cutN (countI t) m : Nat) : Int)) ∧ Below W.heap.size W W'

set_option maxRecDepth 100000 in
set_option maxHeartbeats 1000000 in
theorem many_step (t : It) (IH : ∀ k ∈ t.kids, ManyAt k) : ManyAt t := by
  intro m hm1 hm2 v w ht
  obtain ⟨a, cap, rfl, hn, hs, hk⟩ := ht.open
  clear ht hs
  rw [countI_eq]
  have HI := Lib.hid IH
  have HK := Lib.hid hk
  clear IH hk
  generalize t.list = l at *
  generalize t.bytes = b at *
  generalize t.kids = ks at *
  obtain ⟨n, en⟩ : ∃ n, ks.length = n := ⟨_, rfl⟩
  rw [en] at hn ⊢
  have hall : countL (ks.take n) = countL ks := by rw [← en, List.take_length]
  replace en := Lib.hid en
  replace hall := Lib.hid hall
  have hp := Lib.hid (countL_part ks)
  obtain ⟨R, hR⟩ : ∃ R, cutN (1 + countL ks) m = R := ⟨_, rfl⟩
  rw [hR]
  replace hR := Lib.hid hR
  have hmI : (1 : Int) ≤ (m : Int) := by omega
  have hmI2 : (m : Int) ≤ 1099511627776 := by omega
  have hmx : Tryz.prog.follows .mixedOrders = true := by kernel_rfl
  go_enter Tryz.func35, Tryz.ntmps35
  have LX := Has.new w 29 #[.bool l, .string b, .slice a n cap]
  have k3 := LX.cell 2 _ rfl
  have Q := (Below.refl w.heap.size w).alloc (Nat.le_refl _) (.cells #[.bool l, .string b, .slice a n cap] 29)
  obtain ⟨W1, hW1⟩ : ∃ W1, w.alloc (.cells #[.bool l, .string b, .slice a n cap] 29) = W1 := ⟨_, rfl⟩
  rw [hW1] at LX k3 Q
  go_wp2_with fail
  clear k3
  go_loopw [5, 6] (fun nv i wr => ∃ k c : Nat, k ≤ n ∧ i = .int .i64 (k : Int) ∧ nv = .int .i64 (c : Int) ∧ c = cutN (1 + countL (ks.take k)) m ∧ Has wr w.heap.size 29 #[.bool l, .string b, .slice a n cap] ∧ Below w.heap.size w wr) (fun _ i _ => n - (intOf i).toNat)
  case atStart => exact ⟨0, 1, by omega, rfl, rfl, by rw [show countL (ks.take 0) = 0 by simp [countL]]; exact (cutN_one m hm1).symm, hW1 ▸ LX, hW1 ▸ Q⟩
  case round =>
    clear LX Q hW1
    obtain ⟨k, c, hkn, rfl, rfl, hc, LX, Q⟩ := hrel
    have c1 : 1 ≤ c := by rw [hc]; exact cutN_pos _ _ (by omega) hm1
    have c2 : c ≤ m := by rw [hc]; exact cutN_le _ _
    replace hc := Lib.hid hc
    have m1 := LX.cell 2 _ rfl
    have c3 : (1 : Int) ≤ (c : Int) := by omega
    have c4 : (c : Int) ≤ (m : Int) := by omega
    by_cases hk5 : k < n
    · have hkI : (k : Int) < (n : Int) := by omega
      have hk0 : (0 : Int) ≤ (k : Int) := by omega
      by_cases hcm : c < m
      · have hcI : (c : Int) < (m : Int) := by omega
        obtain ⟨g, o, rfl, hK⟩ := HK.out.resolve_left (fun h => by have h2 := en.out; rw [h] at h2; simp at h2; omega)
        obtain ⟨kx, hkx⟩ : ∃ kx, ks[k]? = some kx := ⟨_, List.getElem?_eq_getElem (by have := en.out; omega)⟩
        have hmem : kx ∈ ks := List.mem_of_getElem? hkx
        obtain ⟨v0, v1, v2, d0, d1, d2, hi⟩ := hK.get k _ hkx
        have e1 := Lib.hid (countL_take ks k kx hkx)
        clear hkx
        have y0 : wr.cell? ⟨g, o + k * 3, none⟩ = some v0 := (Q.cell (p := ⟨g, _, none⟩) (ltCell d0)).trans d0
        have y1 : wr.cell? ⟨g, o + k * 3 + 1, none⟩ = some v1 := (Q.cell (p := ⟨g, _, none⟩) (ltCell d0)).trans d1
        have y2 : wr.cell? ⟨g, o + k * 3 + 2, none⟩ = some v2 := (Q.cell (p := ⟨g, _, none⟩) (ltCell d0)).trans d2
        have HC := HI.out kx hmem (m - c) (by omega) (by omega) _ _ (hi.later Q)
        rw [show ((m - c : Nat) : Int) = (m : Int) - (c : Int) by omega] at HC
        have hS := cutN_add (1 + countL (ks.take k)) (countI kx) m (by rw [← hc.out]; exact hcm)
        rw [← hc.out, Nat.add_assoc, ← e1.out] at hS
        have hr2 := cutN_le (countI kx) (m - c)
        have HS := Lib.hid hS
        clear hS
        generalize cutN (countI kx) (m - c) = r at *
        have hr3 : (c : Int) + (r : Int) ≤ 1099511627776 := by omega
        have hr4 : (0 : Int) ≤ (r : Int) := by omega
        have hq0 : (0 : Int) ≤ (m : Int) - (c : Int) := by omega
        have hq1 : (m : Int) - (c : Int) ≤ 1099511627776 := by omega
        replace hr2 := Lib.hid hr2
        replace hcm := Lib.hid hcm
        replace HC := Lib.hid HC
        replace LX := Lib.hid LX
        replace Q := Lib.hid Q
        clear d0 d1 d2 hi hK HK
        go_wp2_with fail
        refine HC.out.mono ?_
        rintro _ W2 ⟨rfl, q⟩
        replace LX := Lib.hid (LX.out.later q)
        replace Q := Lib.hid (Q.out.trans (q.mono Q.out.size))
        clear y0 y1 y2 HC m1 q hmI hmI2 hmx c4 hcI
        go_wp2_with fail
        go_roundw
        case rel => exact ⟨k + 1, c + r, by omega, by simp, by simp, HS.out, LX.out, Q.out⟩
        case measure => simp [intOf]; omega
      · have hcm' : c = m := by omega
        have hRc : R = c := by
          rw [← hR.out]
          have h := cutN_full (1 + countL (ks.take k)) (1 + countL ks) m (by rw [← hc.out]; omega) (by have := hp.out k; omega)
          rw [← h, ← hc.out]
        replace hRc := Lib.hid hRc
        replace Q := Lib.hid Q
        have hcI : ¬ (c : Int) < (m : Int) := by omega
        replace hcm' := Lib.hid hcm'
        go_wp2_with fail
        go_ret
        exact ⟨by rw [hRc.out]; rfl, Q.out⟩
    · obtain rfl : k = n := by omega
      have hRc : R = c := by rw [← hR.out, hc.out, hall.out]
      replace hRc := Lib.hid hRc
      replace Q := Lib.hid Q
      go_wp2_with fail
      go_ret
      exact ⟨by rw [hRc.out]; rfl, Q.out⟩

theorem refMany : ∀ t : It, ManyAt t := by
  have H : ∀ (n : Nat) (t : It), SizeOf.sizeOf t < n → ManyAt t := by
    intro n
    induction n with
    | zero => intro t h; omega
    | succ n ih => intro t h; exact many_step t (fun k hk => ih k (by have := It.kid_lt hk; omega))
  exact fun t => H _ t (Nat.lt_succ_self _)
end Go.Proofs.YtbbpmcebakckaaaGreatDoor

/- A range over a function, told by how many rounds are over, whatever each round is handed: E says what it may be; Kp what the loop's body leaves as it was, Sj what the iterator does meanwhile. Condition: the iterator's contract. -/
namespace Go.Proofs.YtbbpmcebakckaaaGreatDoor
open Go Go.RowKit

/-- The iterator's contract: round k is handed what E allows; when all N are over, or one has said that there shall be no more, it returns. -/
def SeqC (F : Fence) (n : Nat) (P : Program) (g : Nat) (lb : Array Value) (E : Nat → Array Value → World → Prop) (Kp Sj : World → World → Prop) (N : Nat) (w : World) : Prop :=
  ∀ (l : Nat) (J Jx : Nat → World → Prop) (W : World), Below w.heap.size w W → (∀ s A X, J s A → Sj A X → J s X) → (∀ s A X, Jx s A → Sj A X → Jx s X) →
    (∀ k args W1, k < N → J k W1 → E k args W1 → YieldAt F (n - 1) P l args W1 fun e W' =>
      (e = .returned (.bool true) ∧ J (k + 1) W' ∧ Kp W1 W') ∨ (e = .returned (.bool false) ∧ Jx k W')) →
    J 0 W →
    CallsIn F n P g (#[.func (.yield l) #[] #[]] ++ lb) W fun e W' => (∃ v, e = .returned v) ∧ (J N W' ∨ ∃ k, k < N ∧ Jx k W')

variable {F : Fence} {n : Nat} {P : Program}

theorem wpIn_rangeFunc_C {g : Operand} {ps : Array Tmp} {assign body : Code} {Q : Exit → Act → World → Prop} {a : Act} {w : World}
    (hro : F.round = none) (h1 : 1 ≤ n) {gf : Nat} {lb : Array Value} (hg : a.eval g = .func (.func gf) #[] lb) (hFg : F.fn gf) (eg : ∀ args w, (callFunc gf args).run P w = .ok (.enter gf args) w)
    {E : Nat → Array Value → World → Prop} {Kp Sj : World → World → Prop} {N : Nat} (hseq : SeqC F (n - 1) P gf lb E Kp Sj N w) (hSj : ∀ A X, Sj A X → ∀ (b : Nat) (o : Obj), A.heap[b]? = some o → o.isCells = false → X.heap[b]? = some o)
    (hKt : ∀ {A B C : World}, Kp A B → Kp B C → Kp A C) (hKb : ∀ (W : World) (l : Nat) (o o' : Obj), w.heap.size ≤ l → W.heap[l]? = some o → o.isCells = false → o.isWalk = false → Kp W (W.putObj l o')) (hps : ∀ k args W, k < N → E k args W → args.size = ps.size)
    (I : Nat → World → Prop) (Ix : Code → Nat → World → Prop) (hI : OwnFrom w.heap.size I) (hIx : ∀ c, OwnFrom w.heap.size (Ix c)) (hIb : ∀ s A X, I s A → Sj A X → I s X) (hIxb : ∀ c s A X, Ix c s A → Sj A X → Ix c s X) (h0 : I 0 w) (Ax : Nat → Act → World → Prop) (hAx : ∀ k a', OwnFrom w.heap.size (fun (_ : Unit) W => Ax k a' W))
    (hassign : ∀ (l k : Nat) (args : Array Value) (W : World) (K : Act → World → Prop), w.heap.size ≤ l → k < N → I k W → E k args W → (∀ a' W', KeepsFrom w.heap.size W W' → Kp W W' → I k W' → Ax k a' W' → K a' W') →
      assign.wpIn (F.inRound l) (n - 1 - 1) P (Exit.then K (fun _ _ _ => False)) { tmps := (ps.zip args).foldl (fun t (p, v) => t.setIfInBounds p v) a.tmps, defers := [] } W)
    (hbody : ∀ (l k : Nat) (a' : Act) (W : World), w.heap.size ≤ l → (∃ r, W.heap[l]? = some (.loop r)) → k < N → I k W → Ax k a' W → body.wpIn (F.inRound l) (n - 1 - 1) P (roundN w.heap.size Kp I Ix k W) a' W)
    (hdone : ∀ (D : Nat) (W : World), w.heap.size ≤ D → I N W → W.heap[D]? = some (.deferred (some [])) → Q .normal { a with defers := { target := .collected D, args := #[] } :: a.defers } W)
    (hstop : ∀ (D : Nat) (c : Code) (k : Nat) (W : World), w.heap.size ≤ D → k < N → Ix c k W → W.heap[D]? = some (.deferred (some [])) → c.wpIn F n P Q { a with defers := { target := .collected D, args := #[] } :: a.defers } W) :
    (Code.rangeFunc g ps assign body).wpIn F n P Q a w := by
  refine wpIn_rangeFunc ?_
  intro fn hfn
  rw [hro]
  obtain ⟨rec, hrec⟩ : ∃ rec : LoopState → Option Code → Loop, rec = fun st pe => { state := st, pending := pe, fn, tmps := a.tmps, params := ps, assign, body, defers := w.heap.size } := ⟨_, rfl⟩
  obtain ⟨W1, hW1⟩ : ∃ W1, (w.alloc (.deferred (some []))).alloc (.loop (rec .ready none)) = W1 := ⟨_, rfl⟩
  have hL1 : W1.heap[w.heap.size + 1]? = some (.loop (rec .ready none)) := by
    rw [← hW1]; have := World.alloc_heap_new (w.alloc (.deferred (some []))) (.loop (rec .ready none)); rwa [World.size_alloc] at this
  have hK1 : W1.heap[w.heap.size]? = some (.deferred (some [])) := by
    rw [← hW1]; exact (Below.heap_alloc _ _ _ (by simp)).trans (World.alloc_heap_new w _)
  have hI1 : I 0 W1 := by rw [← hW1]; exact hI.alloc _ (hI.alloc _ h0)
  have hb1 : Below w.heap.size w W1 := by
    rw [← hW1]; exact ((Below.refl _ w).alloc (Nat.le_refl _) _).alloc (by simp) _
  refine ⟨w.heap.size + 1, [{ target := .collected w.heap.size, args := #[] }], W1, { target := .fn (.func gf) lb, args := #[.func (.yield (w.heap.size + 1)) #[] #[]] }, W1, gf,
    #[.func (.yield (w.heap.size + 1)) #[] #[]] ++ lb, W1, ?_, ?_, ?_, ?_, fun _ => h1, ?_⟩
  · rw [← hW1, hrec]; exact run_enterLoop_outer _ _ _ _ _
  · simp only [resolve, hg]
    simp [go_sem]
  · intro f' hf'; simp [Target.leads] at hf'; subst hf'; exact hFg
  · simp [invoke, go_sem, eg]
  · skip
    refine (hseq (w.heap.size + 1)
      (fun k W => I k W ∧ W.heap[w.heap.size + 1]? = some (.loop (rec .ready none)) ∧ W.heap[w.heap.size]? = some (.deferred (some [])))
      (fun k W => ∃ c, Ix c k W ∧ W.heap[w.heap.size + 1]? = some (.loop (rec .done (some c))) ∧ W.heap[w.heap.size]? = some (.deferred (some [])))
      W1 hb1
      (fun s A X hs hb => ⟨hIb s A X hs.1 hb, hSj A X hb _ _ hs.2.1 rfl, hSj A X hb _ _ hs.2.2 rfl⟩)
      (fun s A X hs hb => by
        obtain ⟨c, hc, hl, hk⟩ := hs
        exact ⟨c, hIxb c s A X hc hb, hSj A X hb _ _ hl rfl, hSj A X hb _ _ hk rfl⟩)
      ?_ ⟨hI1, hL1, hK1⟩).mono ?_
    · rintro k args W hkN ⟨hi, hl, hk⟩ hE
      have hlt : w.heap.size + 1 < W.heap.size := (Array.getElem?_eq_some_iff.1 hl).1
      have hy := run_yield (P := P) (args := args) hl (by rw [hrec]; exact hps k args W hkN hE)
      rw [hrec] at hy
      refine ⟨fn, _, assign, body, hy, roundIn_of_wpIn hfn (hassign _ k args W _ (by omega) hkN hi hE ?_)⟩
      clear hy
      intro a' Wa hkfa hkpa hia hax
      replace hl := hkfa.same _ _ (by omega) hl rfl
      replace hk := hkfa.same _ _ (Nat.le_refl _) hk rfl
      replace hlt : w.heap.size + 1 < Wa.heap.size := (Array.getElem?_eq_some_iff.1 hl).1
      refine ⟨_, run_beginRound hl (by rw [hrec]), ?_⟩
      have hl2 : (Wa.putObj (w.heap.size + 1) (.loop { rec .ready none with state := .busy })).heap[w.heap.size + 1]? = some (.loop { rec .ready none with state := .busy }) := World.putObj_heap_same hlt
      have hk2 : (Wa.putObj (w.heap.size + 1) (.loop { rec .ready none with state := .busy })).heap[w.heap.size]? = some (.deferred (some [])) := (World.putObj_heap_other (by omega)).trans hk
      have hw2 : Kp Wa (Wa.putObj (w.heap.size + 1) (.loop { rec .ready none with state := .busy })) := hKb _ _ _ _ (by omega) hl rfl rfl
      refine wpIn_mono (hbody _ k a' _ (by omega) ⟨_, hl2⟩ hkN (hI.putObj _ hia (by omega) hl rfl) ((hAx k a').putObj (s := ()) _ hax (by omega) hl rfl)) ?_
      have fin : ∀ (jump : Option Code) (W3 : World), KeepsFrom w.heap.size (Wa.putObj (w.heap.size + 1) (.loop { rec .ready none with state := .busy })) W3 →
          (Instr.endRound (w.heap.size + 1) jump).run P W3 = .ok (.bool jump.isNone) (W3.putObj (w.heap.size + 1) (.loop (rec (if jump.isNone then .ready else .done) jump))) ∧
          W3.heap[w.heap.size + 1]? = some (.loop { rec .ready none with state := .busy }) ∧
          (W3.putObj (w.heap.size + 1) (.loop (rec (if jump.isNone then .ready else .done) jump))).heap[w.heap.size + 1]? = some (.loop (rec (if jump.isNone then .ready else .done) jump)) ∧
          (W3.putObj (w.heap.size + 1) (.loop (rec (if jump.isNone then .ready else .done) jump))).heap[w.heap.size]? = some (.deferred (some [])) := fun jump W3 hk3 => by
        have hl3 := hk3.same _ _ (by omega) hl2 rfl
        have := run_endRound (P := P) jump hl3
        rw [hrec] at this ⊢
        exact ⟨this, by rw [hrec] at hl3; exact hl3, World.putObj_heap_same (Array.getElem?_eq_some_iff.1 hl3).1, (World.putObj_heap_other (by omega)).trans (hk3.same _ _ (Nat.le_refl _) hk2 rfl)⟩
      rintro e a3 W3 hp
      cases e with
      | normal =>
        obtain ⟨hk3, hkp3, hi3⟩ := hp
        obtain ⟨hr, hl3, hl4, hk4⟩ := fin none W3 hk3
        exact ⟨_, _, hr, .inl ⟨rfl, ⟨hI.putObj _ hi3 (by omega) hl3 rfl, hl4, hk4⟩, hKt hkpa (hKt (hKt hw2 hkp3) (hKb _ _ _ _ (by omega) hl3 rfl rfl))⟩⟩
      | ret =>
        obtain ⟨hk3, hi3⟩ := hp
        obtain ⟨hr, hl3, hl4, hk4⟩ := fin (some .ret) W3 hk3
        exact ⟨_, _, hr, .inr ⟨rfl, .ret, (hIx _).putObj _ hi3 (by omega) hl3 rfl, hl4, hk4⟩⟩
      | exit id =>
        obtain ⟨hk3, hi3⟩ := hp
        obtain ⟨hr, hl3, hl4, hk4⟩ := fin (some (.exit id)) W3 hk3
        exact ⟨_, _, hr, .inr ⟨rfl, .exit id, (hIx _).putObj _ hi3 (by omega) hl3 rfl, hl4, hk4⟩⟩
      | goto t =>
        obtain ⟨hk3, hi3⟩ := hp
        obtain ⟨hr, hl3, hl4, hk4⟩ := fin (some (.goto t)) W3 hk3
        exact ⟨_, _, hr, .inr ⟨rfl, .goto t, (hIx _).putObj _ hi3 (by omega) hl3 rfl, hl4, hk4⟩⟩
      | panic ch => exact hp.elim
      | outgrown => exact hp.elim
    · rintro e W2 ⟨⟨v, rfl⟩, (⟨hi, hl, hk⟩ | ⟨k, hkN, c, hi, hl, hk⟩)⟩
      · exact ⟨none, _, by have := run_endLoop (P := P) hl (by rw [hrec]; simp); rw [hrec] at this; exact this, hdone _ _ (Nat.le_refl _) (hI.putObj _ hi (by omega) hl rfl) ((World.putObj_heap_other (by omega)).trans hk)⟩
      · exact ⟨some c, _, by have := run_endLoop (P := P) hl (by rw [hrec]; simp); rw [hrec] at this; exact this, hstop _ c k _ (Nat.le_refl _) hkN ((hIx c).putObj _ hi (by omega) hl rfl) ((World.putObj_heap_other (by omega)).trans hk)⟩

end Go.Proofs.YtbbpmcebakckaaaGreatDoor

/- tell, all: an item and all that is in it, one behind the other. Conditions: the item lies in memory. -/
namespace Go.Proofs.YtbbpmcebakckaaaGreatDoor
open Go Go.RowKit
attribute [local go_sem] Oper.semAt_some Grows wide_fn

mutual
/-- An item and all that is in it, each with how many others it is within. -/
def preI : Nat → It → List (Nat × It)
  | d, .mk l b ks => (d, .mk l b ks) :: preL (d + 1) ks
def preL : Nat → List It → List (Nat × It)
  | _, [] => []
  | d, k :: ks => preI d k ++ preL d ks
end
theorem preI_eq (d : Nat) (t : It) : preI d t = (d, t) :: preL (d + 1) t.kids := by
  obtain ⟨l, b, ks⟩ := t
  rw [preI]
  rfl
mutual
theorem preI_length : ∀ (d : Nat) (t : It), (preI d t).length = countI t
  | d, .mk l b ks => by rw [preI, countI, List.length_cons, preL_length (d + 1) ks]; omega
theorem preL_length : ∀ (d : Nat) (ts : List It), (preL d ts).length = countL ts
  | d, [] => by simp [preL, countL]
  | d, k :: ks => by rw [preL, countL, List.length_append, preI_length d k, preL_length d ks]
end
theorem preL_at : ∀ (d : Nat) (ks : List It) (j : Nat) (x : It) (i : Nat), ks[j]? = some x → i < countI x → (preL d ks)[countL (ks.take j) + i]? = (preI d x)[i]?
  | d, [], j, x, i, h, _ => by simp at h
  | d, k :: ks, 0, x, i, h, hi => by
    simp at h
    subst h
    rw [preL, show (countL ((k :: ks).take 0)) = 0 by simp [countL], Nat.zero_add, List.getElem?_append_left (by rw [preI_length]; exact hi)]
  | d, k :: ks, j + 1, x, i, h, hi => by
    have h' : ks[j]? = some x := by simpa using h
    rw [preL, List.take_succ_cons, countL, List.getElem?_append_right (by rw [preI_length]; omega), preI_length, show countI k + countL (ks.take j) + i - countI k = countL (ks.take j) + i by omega]
    exact preL_at d ks j x i h' hi

theorem countI_kid {t k : It} (h : k ∈ t.kids) : countI k + 1 ≤ countI t := by
  rw [countI_eq t]
  obtain ⟨j, hj⟩ := List.getElem?_of_mem h
  have h1 := countL_take t.kids j k hj
  have h2 := countL_part t.kids (j + 1)
  omega
/-- What a loop's body leaves: all that is older than n, and blocks of items. -/
def Kd (n : Nat) (A X : World) : Prop := Below n A X ∧ ∀ (b : Nat) (cs : Array Value) (h : Nat × Nat), n ≤ b → A.heap[b]? = some (.cells cs 29 h) → X.heap[b]? = some (.cells cs 29 h)
theorem Kd.refl (n : Nat) (A : World) : Kd n A A := ⟨Below.refl _ _, fun _ _ _ _ h => h⟩
theorem Kd.trans {n : Nat} {A B C : World} (h : Kd n A B) (k : Kd n B C) : Kd n A C := ⟨h.1.trans k.1, fun b cs m hb hA => k.2 b cs m hb (h.2 b cs m hb hA)⟩
theorem Kd.grow {n : Nat} {A X : World} (h : Below A.heap.size A X) (hn : n ≤ A.heap.size) : Kd n A X := ⟨h.mono hn, fun b _ _ _ hA => (h.block b (Array.getElem?_eq_some_iff.1 hA).1).trans hA⟩
theorem Kd.has {n : Nat} {A X : World} (h : Kd n A X) {B : Nat} {cs : Array Value} (hA : Has A B 29 cs) : Has X B 29 cs := by
  rcases Nat.lt_or_ge B n with hB | hB
  · exact (h.1.block B hB).trans hA
  · exact h.2 B cs (0, 0) hB hA
theorem Kd.put {n : Nat} (W : World) (l : Nat) (o o' : Obj) (hn : n ≤ l) (hl : W.heap[l]? = some o) (ho : o.isCells = false) : Kd n W (W.putObj l o') :=
  ⟨⟨rfl, rfl, rfl, by simp, fun k hk => World.putObj_heap_other (by omega)⟩, fun b cs h _ hA => (World.putObj_heap_other (fun e => by
    subst e
    rw [hl] at hA
    cases hA
    cases ho)).trans hA⟩

theorem roundIn_any {n m : Nat} {P : Program} {l : Nat} {f : FuncId} {tmps : Array Value} {assign body : Code} {w : World} {R : Ending → World → Prop} (h : RoundIn Fence.wide n P l f tmps assign body w R) : RoundIn Fence.wide m P l f tmps assign body w R :=
  ⟨h.1, fun c cs _ => h.2 c cs (room_wide _)⟩
theorem yieldAt_any {n m : Nat} {P : Program} {l : Nat} {args : Array Value} {W : World} {R : Ending → World → Prop} (h : YieldAt Fence.wide n P l args W R) : YieldAt Fence.wide m P l args W R := by
  obtain ⟨fn, tmps, assign, body, h1, h2⟩ := h
  exact ⟨fn, tmps, assign, body, h1, roundIn_any h2⟩

/-- What round k may be handed: the item there. -/
def EI (w0 : World) (d : Nat) (t : It) (k : Nat) (args : Array Value) (_ : World) : Prop := ∃ d' x v, (preI d t)[k]? = some (d', x) ∧ args = #[.int .i64 ((d' : Nat) : Int), v] ∧ ItemAt w0 x v

/-- What tell comes to. -/
def TellP (t : It) (k0 n0 : Nat) (J Jx : Nat → World → Prop) (W : World) (e : Ending) (W' : World) : Prop :=
  (e = .returned (.bool true) ∧ J (k0 + countI t) W' ∧ Kd n0 W W') ∨ (e = .returned (.bool false) ∧ ∃ k, k < countI t ∧ Jx (k0 + k) W')
def TellAt (t : It) : Prop := ∀ (w0 : World) (v : Value), ItemAt w0 t v → ∀ (l m d k0 : Nat) (J Jx : Nat → World → Prop) (W : World), d + countI t ≤ 1099511627776 → Below w0.heap.size w0 W →
  (∀ s A X, J s A → Below A.heap.size A X → J s X) → (∀ s A X, Jx s A → Below A.heap.size A X → Jx s X) →
  (∀ k args W1, k < countI t → J (k0 + k) W1 → EI w0 d t k args W1 → YieldAt Fence.wide m Tryz.prog l args W1 fun e W' =>
    (e = .returned (.bool true) ∧ J (k0 + k + 1) W' ∧ Kd w0.heap.size W1 W') ∨ (e = .returned (.bool false) ∧ Jx (k0 + k) W')) →
  J k0 W →
  Calls Tryz.prog 51 #[v, .int .i64 (d : Int), .func (.yield l) #[] #[]] W (TellP t k0 w0.heap.size J Jx W)

set_option maxRecDepth 100000 in
set_option maxHeartbeats 4000000 in
theorem tell_step (t : It) (IH : ∀ k ∈ t.kids, TellAt k) : TellAt t := by
  intro w0 v ht l m d k0 J Jx W hd hW hJA hJxA hY h0
  obtain ⟨a, cap, rfl, hn, hs, hk⟩ := ht.open
  have hY0 := hY 0 #[.int .i64 (d : Int), .agg #[.bool t.list, .string t.bytes, .slice a t.kids.length cap]]
  refine (callsIn_wide (n := 4)).1 ?_
  refine callsIn_of_wp Tryz.func51 rfl trivial ?_ rfl
  simp only [Tryz.ntmps51, List.size_toArray, List.length_cons, List.length_nil, Nat.reduceAdd, Nat.reduceSub, Array.replicate_succ, Array.replicate_zero, List.push_toArray, List.append_toArray, List.nil_append, List.cons_append]
  have LX := Has.new W 29 #[.bool t.list, .string t.bytes, .slice a t.kids.length cap]
  have QW := (Below.refl W.heap.size W).alloc (Nat.le_refl _) (.cells #[.bool t.list, .string t.bytes, .slice a t.kids.length cap] 29)
  obtain ⟨W1, hW1⟩ : ∃ W1, W.alloc (.cells #[.bool t.list, .string t.bytes, .slice a t.kids.length cap] 29) = W1 := ⟨_, rfl⟩
  rw [hW1] at LX QW
  have J1 := hJA _ _ _ h0 QW
  have hW0 := hW.trans (QW.mono hW.size)
  have kd1 := Kd.grow QW hW.size
  obtain ⟨fn, tmps, assign, body, hy, hR⟩ := hY0 W1 (by have := countI_pos t; omega) J1 ⟨d, t, _, by rw [preI_eq]; rfl, rfl, ht⟩
  have c0 := LX.cell 0 _ rfl
  have c1 := LX.cell 1 _ rfl
  have c2 := LX.cell 2 _ rfl
  have HY := Lib.hid hY
  have HJ := Lib.hid (And.intro hJA hJxA)
  have HK := Lib.hid hk
  have HI := Lib.hid IH
  have HT := Lib.hid ht
  have HC := Lib.hid (countI_eq t)
  have HCT := Lib.hid (show ∀ k ∈ t.kids, countI k + 1 ≤ countI t from fun k h => countI_kid h)
  have HCP := Lib.hid (show 0 < countI t from countI_pos t)
  have HP := Lib.hid (preI_eq d t)
  replace LX := Lib.hid LX
  replace QW := Lib.hid QW
  replace hW0 := Lib.hid hW0
  replace kd1 := Lib.hid kd1
  replace hW := Lib.hid hW
  clear hY hY0 hJA hJxA hk IH h0 J1 ht
  generalize t.list = tl at *
  generalize t.bytes = b at *
  generalize t.kids = ks at *
  obtain ⟨n, en⟩ : ∃ n, ks.length = n := ⟨_, rfl⟩
  rw [en] at hn hy LX hW1 c2 ⊢
  replace en := Lib.hid en
  gi_wp2_with fail
  refine (roundIn_any hR).mono ?_
  have HEND : ∀ (k : Nat) (X : World), k < countI t → Jx (k0 + k) X → TellP t k0 w0.heap.size J Jx W (.returned (.bool false)) X := fun k X h1 h2 => .inr ⟨rfl, k, h1, h2⟩
  replace HEND := Lib.hid HEND
  rintro e W2 (⟨rfl, hJ2, hk2⟩ | ⟨rfl, hJx2⟩)
  · have L2 := hk2.has LX.out
    have kd2 := Lib.hid (kd1.out.trans hk2)
    have c0 := L2.cell 0 _ rfl
    have c1 := L2.cell 1 _ rfl
    have c2 := L2.cell 2 _ rfl
    replace L2 := Lib.hid L2
    replace hJ2 := Lib.hid hJ2
    have hsz2 := Lib.hid (Nat.lt_of_lt_of_le LX.out.lt hk2.1.size)
    clear hk2 hR hy LX QW hW0 kd1 hW1
    gi_wp2_with fail
    gi_loopw [17] (fun i wr => ∃ k : Nat, k ≤ n ∧ i = .int .i64 (k : Int) ∧ J (k0 + (1 + countL (ks.take k))) wr ∧ Kd w0.heap.size W wr) (fun i _ => n - (intOf i).toNat)
    case atStart => exact ⟨0, by omega, rfl, by rw [show countL (ks.take 0) = 0 by simp [countL]]; exact hJ2.out, kd2.out⟩
    case round =>
      clear hJ2 kd2 L2 c0 c1 c2 hsz2
      obtain ⟨k, hkn, rfl, hJ, kd⟩ := hrel
      by_cases hk5 : k < n
      · have hkI : (k : Int) < (n : Int) := by omega
        have hk0 : (0 : Int) ≤ (k : Int) := by omega
        obtain ⟨g, o, rfl, hK⟩ := HK.out.resolve_left (fun h => by have h2 := en.out; rw [h] at h2; simp at h2; omega)
        obtain ⟨kx, hkx⟩ : ∃ kx, ks[k]? = some kx := ⟨_, List.getElem?_eq_getElem (by have := en.out; omega)⟩
        have hm : kx ∈ ks := List.mem_of_getElem? hkx
        obtain ⟨l1, b1, a1, n1, cap1, e0, e1, e2, hi⟩ := hK.get3 k _ hkx
        have hB := hW.out.trans kd.1
        replace e0 := (hB.cell (p := ⟨g, _, none⟩) (ltCell e0)).trans e0
        replace e1 := (hB.cell (p := ⟨g, _, none⟩) (ltCell e1)).trans e1
        replace e2 := (hB.cell (p := ⟨g, _, none⟩) (ltCell e2)).trans e2
        have NX := Has.new wr 29 #[.bool false, .string ⟨#[]⟩, .slice none 0 0]
        have x0 := NX.cell 0 _ rfl
        have x1 := NX.cell 1 _ rfl
        have x2 := NX.cell 2 _ rfl
        have f0 := NX.frozen 0
        have f1 := NX.frozen 1
        have f2 := NX.frozen 2
        replace NX := Lib.hid NX
        have q := (Below.refl wr.heap.size wr).alloc (Nat.le_refl _) (.cells #[.bool l1, .string b1, .slice a1 n1 cap1] 29)
        have hct := HCT.out kx hm
        have hpart := countL_part ks (k + 1)
        have htake := countL_take ks k kx hkx
        have HCALL := HI.out kx hm w0 _ hi l m (d + 1) (k0 + (1 + countL (ks.take k))) J Jx (wr.alloc (.cells #[.bool l1, .string b1, .slice a1 n1 cap1] 29)) (by omega) (hB.trans (q.mono hB.size)) HJ.out.1 HJ.out.2
          (fun i args W1 hi' hJi hE => by
            have hC := HC.out
            rw [show k0 + (1 + countL (ks.take k)) + i = k0 + (1 + countL (ks.take k) + i) by omega] at hJi ⊢
            refine HY.out (1 + countL (ks.take k) + i) args W1 (by omega) hJi ?_
            obtain ⟨d', x, v', h1, h2, h3⟩ := hE
            refine ⟨d', x, v', ?_, h2, h3⟩
            rw [HP.out, show 1 + countL (ks.take k) + i = (countL (ks.take k) + i) + 1 by omega, List.getElem?_cons_succ, preL_at (d + 1) ks k kx i hkx hi']
            exact h1)
          (HJ.out.1 _ _ _ hJ q)
        have hnx := Lib.hid (show k0 + (1 + countL (ks.take k)) + countI kx = k0 + (1 + countL (ks.take (k + 1))) by omega)
        have kdA := Lib.hid (kd.trans (Kd.grow q hB.size))
        have hCk := Lib.hid (show ∀ i, i < countI kx → 1 + countL (ks.take k) + i < countI t ∧ k0 + (1 + countL (ks.take k)) + i = k0 + (1 + countL (ks.take k) + i) from fun i hi' => by have := HC.out; omega)
        have hdI : (d : Int) + 1 ≤ 1099511627776 := by omega
        have hd0 : (0 : Int) ≤ (d : Int) := by omega
        rw [show ((d + 1 : Nat) : Int) = (d : Int) + 1 by omega] at HCALL
        replace HCALL := Lib.hid HCALL
        have lg := ltCell e0
        clear hB hi hK HK hJ kd q hct hpart htake hd HT HP HY HJ HI HCT HC hkx
        gi_wp2_with fail
        refine (callsIn_free free_wide HCALL.out).mono ?_
        rintro e W3 (⟨rfl, hJ3, hk3⟩ | ⟨rfl, i, hi3, hJx3⟩)
        · rw [hnx.out] at hJ3
          have kd3 := Lib.hid (kdA.out.trans hk3)
          replace hJ3 := Lib.hid hJ3
          clear hk3 HCALL kdA x0 x1 x2 f0 f1 f2 e0 e1 e2 NX lg
          gi_wp2_with fail
          go_roundw
          case rel => exact ⟨k + 1, by omega, by simp, hJ3.out, kd3.out⟩
          case measure => simp [intOf]; omega
        · rw [(hCk.out i hi3).2] at hJx3
          have hE := Lib.hid (HEND.out _ _ (hCk.out i hi3).1 hJx3)
          clear HCALL kdA x0 x1 x2 f0 f1 f2 e0 e1 e2 NX lg hJx3
          gi_wp2_with fail
          refine bodyPost_ret (results_tmp rfl _ _ _) rfl ?_
          exact hE.out
      · obtain rfl : k = n := by omega
        have hE := Lib.hid (show TellP t k0 w0.heap.size J Jx W (.returned (.bool true)) wr from .inl ⟨rfl, by
          rw [HC.out]
          rw [List.take_of_length_le (by have := en.out; omega)] at hJ
          exact hJ, kd⟩)
        clear hJ kd
        gi_wp2_with fail
        refine bodyPost_ret (results_tmp rfl _ _ _) rfl ?_
        exact hE.out
  · have hE := Lib.hid (HEND.out 0 _ HCP.out hJx2)
    clear hR hy LX QW hW0 kd1 hW1 hJx2
    gi_wp2_with fail
    refine bodyPost_ret (results_tmp rfl _ _ _) rfl ?_
    exact hE.out
theorem tell_any : ∀ t : It, TellAt t := It.induct tell_step
end Go.Proofs.YtbbpmcebakckaaaGreatDoor
