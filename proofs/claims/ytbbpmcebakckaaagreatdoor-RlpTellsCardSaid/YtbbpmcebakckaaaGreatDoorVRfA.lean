import Derived.Test.YtbbpmcebakckaaaGreatDoorU16
import Derived.Test.YtbbpmcebakckaaaGreatDoorU18
/- The document's own reader of items: the first error, and a head's size. Conditions: the reader lies in memory; places are in reach. -/
namespace Go.Proofs.YtbbpmcebakckaaaGreatDoor
open Go Go.RowKit
attribute [local go_sem] Oper.semAt_some Grows wide_fn

/-- The reader's cells. -/
abbrev stC (s : ByteArray) (a m x : Nat) : Array Value := #[.string s, .int .i64 (a : Int), .int .i64 (m : Int), .int .i64 (x : Int)]
theorem grown_self (w : World) (r : Option Nat) : w.grownBy w r := ⟨rfl, rfl, rfl, Nat.le_refl _, fun _ _ _ => rfl⟩
set_option maxRecDepth 100000 in
set_option maxHeartbeats 2000000 in
theorem fail_first (s : ByteArray) (R a m x p : Nat) (w : World) (hR : Has w R 74 (stC s a m 0)) :
    Calls Tryz.prog 42 #[.pointer (some ⟨R, 0, none⟩), .int .i64 (x : Int), .int .i64 (p : Int)] w fun e y => e = .returned (.tuple #[]) ∧ Has y R 74 (stC s p m x) ∧ w.grownBy y (some R) := by
  have c3 : w.cell? ⟨R, 3, none⟩ = some (.int .i64 0) := hR.cell 3 _ rfl
  have c1 := hR.cell 1 _ rfl
  have z1 := hR.frozen 1
  have z3 := hR.frozen 3
  have S := Lib.hid ((hR.set 3 (.int .i64 (x : Int))).set 1 (.int .i64 (p : Int)))
  have G := Lib.hid (grown_set' (grown_set' (grown_self w (some R)) 3 (.int .i64 (x : Int))) 1 (.int .i64 (p : Int)))
  replace hR := Lib.hid hR
  go_enter Tryz.func42, Tryz.ntmps42
  go_wp2_with fail
  exact ⟨rfl, .tuple #[], by simp [results, Tryz.results42, go_sem], rfl, S.out, G.out⟩
set_option maxRecDepth 100000 in
set_option maxHeartbeats 2000000 in
theorem fail_later (s : ByteArray) (R a m x0 x p : Nat) (w : World) (hR : Has w R 74 (stC s a m x0)) (h0 : x0 ≠ 0) :
    Calls Tryz.prog 42 #[.pointer (some ⟨R, 0, none⟩), .int .i64 (x : Int), .int .i64 (p : Int)] w fun e y => e = .returned (.tuple #[]) ∧ y = w := by
  have c3 := hR.cell 3 _ rfl
  have hx : ((x0 : Int) == 0) = false := by rw [beq_eq_false_iff_ne]; omega
  replace hR := Lib.hid hR
  clear h0
  go_enter Tryz.func42, Tryz.ntmps42
  go_wp2_with fail
  exact ⟨rfl, .tuple #[], by simp [results, Tryz.results42, go_sem], rfl, rfl⟩
/-- What a head's size comes to. -/
def SzP (s : ByteArray) (R : Nat) (W : World) (told e a m : Nat) (E : Ending) (y : World) : Prop :=
  ∃ z a' x : Nat, E = .returned (.int .i64 (z : Int)) ∧ Has y R 74 (stC s a' m x) ∧ W.grownBy y (some R) ∧ z < 281474976710656 ∧
    ((x = 0 ∧ a < a' ∧ a' ≤ e ∧ ((rdHead s.data.toList told e a = .ok z a' 0 ∧ a' + z ≤ e) ∨ (rdHead s.data.toList told e a = .no 10 a ∧ e < a' + z))) ∨ (x ≠ 0 ∧ rdHead s.data.toList told e a = .no x a'))
theorem head_small {s : List UInt8} {told e a : Nat} (h : told ≤ 55) : (a + 1 + told ≤ e → rdHead s told e a = .ok told (a + 1) 0) ∧ (¬ a + 1 + told ≤ e → rdHead s told e a = .no 10 a) := by
  unfold rdHead
  rw [if_pos h]
  exact ⟨fun h => by rw [if_pos h], fun h => by rw [if_neg h]⟩
theorem head_short {s : List UInt8} {told e a : Nat} (h : ¬ told ≤ 55) (h2 : e < a + 1 + (told - 55)) : rdHead s told e a = .no 10 a := by
  unfold rdHead
  rw [if_neg h, if_pos h2]
theorem head_long {s : List UInt8} {told e a n : Nat} (h : ¬ told ≤ 55) (h2 : ¬ e < a + 1 + (told - 55)) (hn : val256 0 ((s.drop (a + 1)).take (told - 55)) = n) :
    ((byteAt s (a + 1) = 0 ∨ n ≤ 55) → rdHead s told e a = .no 11 (a + 1)) ∧ (¬ (byteAt s (a + 1) = 0 ∨ n ≤ 55) → a + 1 + (told - 55) + n ≤ e → rdHead s told e a = .ok n (a + 1 + (told - 55)) 0) ∧
      (¬ (byteAt s (a + 1) = 0 ∨ n ≤ 55) → ¬ a + 1 + (told - 55) + n ≤ e → rdHead s told e a = .no 10 a) := by
  subst hn
  unfold rdHead
  rw [if_neg h, if_neg h2]
  exact ⟨fun h => if_pos h, fun h h' => (if_neg h).trans (if_pos h'), fun h h' => (if_neg h).trans (if_neg h')⟩
/-- A number's digits taken so far, where too great ones are not told any more. -/
def Upto (s : List UInt8) (a i z : Nat) : Prop := (z = val256 0 ((s.drop a).take i) ∨ (1099511627776 ≤ z ∧ 1099511627776 ≤ val256 0 ((s.drop a).take i))) ∧ z < 281474976710656
theorem take_one_more {s : List UInt8} {a i : Nat} (h : a + i < s.length) : (s.drop a).take (i + 1) = (s.drop a).take i ++ [UInt8.ofNat (byteAt s (a + i))] := by
  have hl : i < (s.drop a).length := by rw [List.length_drop]; omega
  rw [List.take_add_one, List.getElem?_eq_getElem hl]
  have : (s.drop a)[i] = s[a + i] := by rw [List.getElem_drop]
  rw [this]
  have h2 := one_byte s h
  injection h2 with h2
  rw [h2]
  rfl
theorem Upto.start (s : List UInt8) (a : Nat) : Upto s a 0 0 := ⟨.inl (by simp [val256]), by decide⟩
theorem Upto.more {s : List UInt8} {a i z : Nat} (h : Upto s a i z) (hl : a + i < s.length) (hz : z < 1099511627776) : Upto s a (i + 1) (256 * z + byteAt s (a + i)) := by
  have hb := byteAt_lt s (a + i)
  refine ⟨.inl ?_, by omega⟩
  rcases h.1 with h1 | h1
  · rw [take_one_more hl, val256_snoc, ← h1, UInt8.toNat_ofNat', Nat.mod_eq_of_lt hb]
    omega
  · omega
theorem Upto.full {s : List UInt8} {a i z : Nat} (h : Upto s a i z) (hl : a + i < s.length) (hz : ¬ z < 1099511627776) : Upto s a (i + 1) z := by
  refine ⟨.inr ⟨by omega, ?_⟩, h.2⟩
  rw [take_one_more hl, val256_snoc]
  rcases h.1 with h1 | h1
  · omega
  · omega
set_option maxRecDepth 100000 in
set_option maxHeartbeats 4000000 in
theorem size_small (s : ByteArray) (R a m e k told : Nat) (w : World) (hR : Has w R 74 (stC s a m 0)) (hs : s.size ≤ 1099511627776) (he : e ≤ s.size) (ha : a < e) (hk : k ≤ 255) (hb : byteAt s.data.toList a = k + told) (ht : told ≤ 55) :
    Calls Tryz.prog 61 #[.pointer (some ⟨R, 0, none⟩), .int .i64 (k : Int), .int .i64 (e : Int)] w (SzP s R w told e a m) := by
  have hmx : Tryz.prog.follows .mixedOrders = true := by kernel_rfl
  have hal : a < s.size := by omega
  obtain ⟨c, hc⟩ : ∃ c, k + told = c := ⟨_, rfl⟩
  have hbv : (((s[a]'hal).toNat : Nat) : Int) = (c : Int) := by rw [byte_idx' hal, hb, hc]
  have hcb := byteAt_lt s.data.toList a
  have hcI0 : (0 : Int) ≤ (c : Int) := by omega
  have hcI1 : (c : Int) ≤ 255 := by omega
  have haI0 : (0 : Int) ≤ (a : Int) := by omega
  have haI1 : (a : Int) < (s.size : Int) := by omega
  have haI2 : (a : Int) ≤ 1099511627776 := by omega
  have hta : ((a : Int)).toNat = a := by omega
  have htI : (told : Int) ≤ 55 := by omega
  have htI0 : (0 : Int) ≤ (told : Int) := by omega
  have hsub : (c : Int) - (k : Int) = (told : Int) := by omega
  clear hcb hc
  have c0 := hR.cell 0 _ rfl
  have c1 := hR.cell 1 _ rfl
  have z1 := hR.frozen 1
  have S := hR.set 1 (.int .i64 ((a : Int) + 1))
  have G := Lib.hid (grown_set' (grown_self w (some R)) 1 (.int .i64 ((a : Int) + 1)))
  have hE := Lib.hid (show SzP s R w told e a m (.returned (.int .i64 (told : Int))) (w.setCell ⟨R, 1, none⟩ (.int .i64 ((a : Int) + 1))) from by
    refine ⟨told, a + 1, 0, rfl, ?_, G.out, by omega, .inl ⟨rfl, by omega, by omega, ?_⟩⟩
    · exact S
    · by_cases h : a + 1 + told ≤ e
      · exact .inl ⟨(head_small ht).1 h, h⟩
      · exact .inr ⟨(head_small ht).2 h, by omega⟩)
  replace hR := Lib.hid hR
  replace S := Lib.hid S
  clear hs he ha hk hb ht
  go_enter Tryz.func61, Tryz.ntmps61
  go_wp2_with fail
  go_ret
  exact hE.out
set_option maxRecDepth 100000 in
set_option maxHeartbeats 4000000 in
theorem size_great (s : ByteArray) (R a m e k told : Nat) (w : World) (hR : Has w R 74 (stC s a m 0)) (hs : s.size ≤ 1099511627776) (he : e ≤ s.size) (ha : a < e) (hk : k ≤ 255) (hb : byteAt s.data.toList a = k + told) (ht : ¬ told ≤ 55) (ht2 : told ≤ 63) :
    Calls Tryz.prog 61 #[.pointer (some ⟨R, 0, none⟩), .int .i64 (k : Int), .int .i64 (e : Int)] w (SzP s R w told e a m) := by
  have hmx : Tryz.prog.follows .mixedOrders = true := by kernel_rfl
  have hal : a < s.size := by omega
  obtain ⟨c, hc⟩ : ∃ c, k + told = c := ⟨_, rfl⟩
  have hbv : (((s[a]'hal).toNat : Nat) : Int) = (c : Int) := by rw [byte_idx' hal, hb, hc]
  have hcb := byteAt_lt s.data.toList a
  have hcI0 : (0 : Int) ≤ (c : Int) := by omega
  have hcI1 : (c : Int) ≤ 255 := by omega
  have haI0 : (0 : Int) ≤ (a : Int) := by omega
  have haI1 : (a : Int) < (s.size : Int) := by omega
  have haI2 : (a : Int) ≤ 1099511627776 := by omega
  have hta : ((a : Int)).toNat = a := by omega
  have htI : ¬ (told : Int) ≤ 55 := by omega
  have htI0 : (0 : Int) ≤ (told : Int) := by omega
  have htI2 : (told : Int) ≤ 63 := by omega
  have hsub : (c : Int) - (k : Int) = (told : Int) := by omega
  clear hcb hc
  obtain ⟨dl, hdl⟩ : ∃ dl, told - 55 = dl := ⟨_, rfl⟩
  have hdlI : (told : Int) - 55 = (dl : Int) := by omega
  have hd1 : (1 : Int) ≤ (dl : Int) := by omega
  have hd8 : (dl : Int) ≤ 8 := by omega
  have heI : (e : Int) ≤ 1099511627776 := by omega
  have c0 := hR.cell 0 _ rfl
  have c1 := hR.cell 1 _ rfl
  have z1 := hR.frozen 1
  have S := hR.set 1 (.int .i64 ((a : Int) + 1))
  have G := grown_set' (grown_self w (some R)) 1 (.int .i64 ((a : Int) + 1))
  obtain ⟨W1, hW1⟩ : ∃ W1, w.setCell ⟨R, 1, none⟩ (.int .i64 ((a : Int) + 1)) = W1 := ⟨_, rfl⟩
  rw [hW1] at S G
  have S1 := Lib.hid (show Has W1 R 74 (stC s (a + 1) m 0) from S)
  have G1 := Lib.hid G
  have d0 := S.cell 0 _ rfl
  have d1 := S.cell 1 _ rfl
  have HS := Lib.hid (show a < e ∧ e ≤ s.size ∧ s.size ≤ 1099511627776 ∧ told - 55 = dl ∧ 1 ≤ dl ∧ dl ≤ 8 from ⟨ha, he, hs, hdl, by omega, by omega⟩)
  have HT := Lib.hid ht
  replace hR := Lib.hid hR
  clear S G hs he ha hk hb ht ht2 hdl
  by_cases hsh : e < a + 1 + dl
  · have hshI : (e : Int) < (a : Int) + 1 + (dl : Int) := by omega
    have HF := Lib.hid (show Calls Tryz.prog 42 #[.pointer (some ⟨R, 0, none⟩), .int .i64 10, .int .i64 (a : Int)] W1 _ from fail_first s R (a + 1) m 10 a W1 S1.out)
    have HH := Lib.hid (show rdHead s.data.toList told e a = .no 10 a from head_short HT.out (by rw [HS.out.2.2.2.1]; exact hsh))
    clear hsh
    go_enter Tryz.func61, Tryz.ntmps61
    go_wp2_with fail
    refine HF.out.mono ?_
    rintro _ y ⟨rfl, hy, hg⟩
    have HY := Lib.hid (And.intro hy (grown_trans G1.out hg))
    clear hy hg HF c0 c1 z1 d0 d1
    go_wp2_with fail
    go_ret
    exact ⟨0, a, 10, rfl, HY.out.1, HY.out.2, by decide, .inr ⟨by decide, HH.out⟩⟩
  · have hshI : ¬ (e : Int) < (a : Int) + 1 + (dl : Int) := by omega
    have HSH := Lib.hid hsh
    clear hsh
    go_enter Tryz.func61, Tryz.ntmps61
    go_wp2_with fail
    clear c0 c1 z1 hW1
    go_loopw [10, 11] (fun z i wr => ∃ zn k : Nat, k ≤ dl ∧ z = .int .i64 (zn : Int) ∧ i = .int .i64 (k : Int) ∧ Upto s.data.toList (a + 1) k zn ∧ Below W1.heap.size W1 wr) (fun _ i _ => dl - (intOf i).toNat)
    case atStart => exact ⟨0, 0, by omega, rfl, rfl, Upto.start _ _, Below.refl _ _⟩
    case round =>
      obtain ⟨zn, j, hj, rfl, rfl, hup, hq⟩ := hrel
      have HUP := Lib.hid hup
      have HQ := Lib.hid hq
      clear d0 d1 hup hq
      have hz0 : (0 : Int) ≤ (zn : Int) := by omega
      by_cases hjd : j < dl
      · have hjI : (j : Int) < (dl : Int) := by omega
        have hj0 : (0 : Int) ≤ (j : Int) := by omega
        have HJ := Lib.hid hjd
        by_cases hz : zn < 1099511627776
        · have hzI : (zn : Int) < 1099511627776 := by omega
          have hzI2 : (zn : Int) ≤ 1099511627775 := by omega
          have hidx : a + 1 + j < s.size := by have := HS.out; have := HSH.out; omega
          have hbj : (((s[a + 1 + j]'hidx).toNat : Nat) : Int) = ((byteAt s.data.toList (a + 1 + j) : Nat) : Int) := by rw [byte_idx' hidx]
          have hbl := byteAt_lt s.data.toList (a + 1 + j)
          obtain ⟨bj, hbj2⟩ : ∃ b, byteAt s.data.toList (a + 1 + j) = b := ⟨_, rfl⟩
          rw [hbj2] at hbj hbl
          have hbI0 : (0 : Int) ≤ (bj : Int) := by omega
          have hbI1 : (bj : Int) ≤ 255 := by omega
          have hiI0 : (0 : Int) ≤ (a : Int) + 1 + (j : Int) := by omega
          have hiI1 : (a : Int) + 1 + (j : Int) < (s.size : Int) := by omega
          have htn : ((a : Int) + 1 + (j : Int)).toNat = a + 1 + j := by omega
          have HU2 := Lib.hid (show Upto s.data.toList (a + 1) (j + 1) (256 * zn + bj) from by rw [← hbj2]; exact HUP.out.more (by rw [← size_list]; exact hidx) hz)
          have k0 := fun x : Ext wr => (S1.out.later (HQ.out.trans (x.below.mono HQ.out.size))).cell 0 _ rfl
          have k1 : ∀ x : Ext wr, x.w.cell? ⟨R, 1, none⟩ = some (.int .i64 ((a : Int) + 1)) := fun x => (S1.out.later (HQ.out.trans (x.below.mono HQ.out.size))).cell 1 _ rfl
          clear hbj2 hbl hz hjd hj HUP
          go_wp2_with fail
          refine wp_region_mix (C := Grows wr) [some true, some true, some true, some true, some true, some true, some true, some true, some true, some true, some true, some true, some true, some true, some true, none] hmx (by kernel_rfl) (by kernel_rfl) (grows_refl wr) ?_
          simp only [headOf, tailOf]
          repeat (go_big_quiet_step (fail))
          refine wpQuiet_nil ?_
          rintro _ ⟨x, rfl⟩
          have HE := Lib.hid (HQ.out.trans (x.below.mono HQ.out.size))
          clear k0 k1
          go_wp2
          rw [calmPost_normal]
          go_wp2_with fail
          go_roundw
          case rel => exact ⟨256 * zn + bj, j + 1, by have := HJ.out; omega, by simp, by simp, HU2.out, HE.out⟩
          case measure => have := HJ.out; simp [intOf]; omega
        · have hzI : ¬ (zn : Int) < 1099511627776 := by omega
          have HU2 := Lib.hid (HUP.out.full (by rw [← size_list]; have := HS.out; have := HSH.out; omega) hz)
          clear hz hjd hj HUP
          go_wp2_with fail
          go_roundw
          case rel => exact ⟨zn, j + 1, by have := HJ.out; omega, rfl, by simp, HU2.out, HQ.out⟩
          case measure => have := HJ.out; simp [intOf]; omega
      · have hjI : ¬ (j : Int) < (dl : Int) := by omega
        obtain rfl : j = dl := by omega
        clear hj hjd
        obtain ⟨n, hn⟩ : ∃ n, val256 0 ((s.data.toList.drop (a + 1)).take j) = n := ⟨_, rfl⟩
        have HHL := Lib.hid (head_long (n := n) HT.out (by rw [HS.out.2.2.2.1]; exact HSH.out) (by rw [HS.out.2.2.2.1]; exact hn))
        rw [HS.out.2.2.2.1] at HHL
        have hup := HUP.out
        unfold Upto at hup
        rw [hn] at hup
        have HU3 := Lib.hid hup
        clear hup hn HUP
        have hidx : a + 1 < s.size := by have := HS.out; have := HSH.out; omega
        have hbj : (((s[a + 1]'hidx).toNat : Nat) : Int) = ((byteAt s.data.toList (a + 1) : Nat) : Int) := by rw [byte_idx' hidx]
        obtain ⟨bj, hbj2⟩ : ∃ b, byteAt s.data.toList (a + 1) = b := ⟨_, rfl⟩
        rw [hbj2] at hbj HHL
        have hiI0 : (0 : Int) ≤ (a : Int) + 1 := by omega
        have hiI1 : (a : Int) + 1 < (s.size : Int) := by omega
        have htn : ((a : Int) + 1).toNat = a + 1 := by omega
        have SJ := Lib.hid (S1.out.later HQ.out)
        have GJ := Lib.hid (show w.grownBy wr (some R) from grown_trans G1.out (grown_of_below HQ.out (some R)))
        have k0 := fun x : Ext wr => (SJ.out.later x.below).cell 0 _ rfl
        have k1 : ∀ x : Ext wr, x.w.cell? ⟨R, 1, none⟩ = some (.int .i64 ((a : Int) + 1)) := fun x => (SJ.out.later x.below).cell 1 _ rfl
        clear hbj2
        by_cases hb0 : bj = 0
        · subst hb0
          go_wp2_with fail
          refine wp_region_quietL (C := Grows wr) hmx (by kernel_rfl) (grows_refl wr) ?_
          repeat (go_big_quiet_step (fail))
          refine wpQuiet_nil ?_
          rintro _ ⟨x, rfl⟩
          have SX := Lib.hid (SJ.out.later x.below)
          have GX := Lib.hid (show w.grownBy x.w (some R) from grown_trans GJ.out (grown_of_below x.below (some R)))
          clear k0 k1 SJ GJ
          have HF := Lib.hid (show Calls Tryz.prog 42 #[.pointer (some ⟨R, 0, none⟩), .int .i64 11, .int .i64 ((a : Int) + 1)] x.w _ from fail_first s R (a + 1) m 11 (a + 1) x.w SX.out)
          go_wp2_with fail
          refine HF.out.mono ?_
          rintro _ y ⟨rfl, hy, hg⟩
          have HY := Lib.hid (And.intro hy (grown_trans GX.out hg))
          clear hy hg HF
          go_wp2_with fail
          go_ret
          exact ⟨0, a + 1, 11, rfl, HY.out.1, HY.out.2, by decide, .inr ⟨by decide, HHL.out.1 (by simp)⟩⟩
        · have hbI : ((bj : Int) == 0) = false := by rw [beq_eq_false_iff_ne]; omega
          by_cases hz56 : zn < 56
          · have hzI : (zn : Int) < 56 := by omega
            have HZ := Lib.hid hz56
            clear hz56
            go_wp2_with fail
            refine wp_region_quietL (C := Grows wr) hmx (by kernel_rfl) (grows_refl wr) ?_
            repeat (go_big_quiet_step (fail))
            refine wpQuiet_nil ?_
            rintro _ ⟨x, rfl⟩
            have SX := Lib.hid (SJ.out.later x.below)
            have GX := Lib.hid (show w.grownBy x.w (some R) from grown_trans GJ.out (grown_of_below x.below (some R)))
            clear k0 k1 SJ GJ
            have HF := Lib.hid (show Calls Tryz.prog 42 #[.pointer (some ⟨R, 0, none⟩), .int .i64 11, .int .i64 ((a : Int) + 1)] x.w _ from fail_first s R (a + 1) m 11 (a + 1) x.w SX.out)
            go_wp2_with fail
            refine HF.out.mono ?_
            rintro _ y ⟨rfl, hy, hg⟩
            have HY := Lib.hid (And.intro hy (grown_trans GX.out hg))
            clear hy hg HF
            go_wp2_with fail
            go_ret
            exact ⟨0, a + 1, 11, rfl, HY.out.1, HY.out.2, by decide, .inr ⟨by decide, HHL.out.1 (.inr (by have h1 := HU3.out; have := HZ.out; omega))⟩⟩
          · have hzI : ¬ (zn : Int) < 56 := by omega
            have HZ := Lib.hid (And.intro hb0 hz56)
            clear hz56 hb0
            go_wp2_with fail
            refine wp_region_quietL (C := Grows wr) hmx (by kernel_rfl) (grows_refl wr) ?_
            repeat (go_big_quiet_step (fail))
            refine wpQuiet_nil ?_
            rintro _ ⟨x, rfl⟩
            have SX := Lib.hid (SJ.out.later x.below)
            have GX := Lib.hid (show w.grownBy x.w (some R) from grown_trans GJ.out (grown_of_below x.below (some R)))
            clear k0 k1 SJ GJ
            have k1 : x.w.cell? ⟨R, 1, none⟩ = some (.int .i64 ((a : Int) + 1)) := SX.out.cell 1 _ rfl
            have y1 := SX.out.frozen 1
            have S2 := SX.out.set 1 (.int .i64 ((a : Int) + 1 + (j : Int)))
            have G2 := Lib.hid (grown_set' GX.out 1 (.int .i64 ((a : Int) + 1 + (j : Int))))
            have hcast : ((a + 1 + j : Nat) : Int) = (a : Int) + 1 + (j : Int) := by omega
            have HE := Lib.hid (show SzP s R w told e a m (.returned (.int .i64 (zn : Int))) (x.w.setCell ⟨R, 1, none⟩ (.int .i64 ((a : Int) + 1 + (j : Int)))) from by
              refine ⟨zn, a + 1 + j, 0, rfl, ?_, G2.out, HU3.out.2, .inl ⟨rfl, by omega, by have := HSH.out; omega, ?_⟩⟩
              · show Has _ R 74 #[.string s, .int .i64 ((a + 1 + j : Nat) : Int), .int .i64 (m : Int), .int .i64 ((0 : Nat) : Int)]
                rw [hcast]
                exact S2
              · have h1 := HU3.out
                have h2 := HHL.out.2
                have h3 := HZ.out
                have h4 := HS.out
                by_cases hfit : a + 1 + j + n ≤ e
                · have : zn = n := by omega
                  subst this
                  exact .inl ⟨h2.1 (by omega) hfit, hfit⟩
                · exact .inr ⟨h2.2 (by omega) hfit, by omega⟩)
            replace S2 := Lib.hid S2
            clear hcast
            go_wp2_with fail
            go_ret
            exact HE.out
end Go.Proofs.YtbbpmcebakckaaaGreatDoor
