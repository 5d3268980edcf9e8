/- Part. -/
import Derived.Laws.MakeOwn
import Derived.Laws.IdiomStrings
import Derived.Test.YtkicmbdjihjgfaaGreatDoorH20
import Derived.Test.YtkicmbdjihjgfaaGreatDoorH16
import Derived.Test.YtkicmbdjihjgfaaGreatDoorH18
import Derived.Test.YtkicmbdjihjgfaaGreatDoorH19
set_option maxRecDepth 100000
set_option maxHeartbeats 16000000
namespace Go.Proofs.YtkicmbdjihjgfaaGreatDoor
section
open Go Go.RowKit Go.Shelf
attribute [local go_sem] Oper.semAt_some Grows wide_fn field0
def ubC (n : Nat) (A : Nat → Nat) : Array Value := ((List.range n).map fun i => Value.int .u8 ((A i : Nat) : Int)).toArray
theorem ubC_get (n : Nat) (A : Nat → Nat) (j : Nat) (h : j < n) : (ubC n A)[j]? = some (.int .u8 ((A j : Nat) : Int)) := by simp [ubC, h]
theorem ubC_congr (n : Nat) (A B : Nat → Nat) (h : ∀ j, j < n → A j = B j) : ubC n A = ubC n B := by
 unfold ubC
 congr 1
 refine List.map_congr_left (fun i hi => ?_)
 rw [h i (List.mem_range.1 hi)]
theorem ubC_set (n : Nat) (A B : Nat → Nat) (k v : Nat) (hB : ∀ j, j < n → B j = if j = k then v else A j) : (ubC n A).setIfInBounds k (.int .u8 ((v : Nat) : Int)) = ubC n B := by
 refine Array.ext (by simp [ubC]) (fun i h1 h2 => ?_)
 have hi : i < n := by simpa [ubC] using h2
 rw [Array.getElem_setIfInBounds (by simpa [ubC] using hi)]
 simp only [ubC, List.getElem_toArray, List.getElem_map, List.getElem_range]
 rw [hB i hi]
 by_cases e : k = i
 ·rw [if_pos e, if_pos e.symm]
 ·rw [if_neg e, if_neg (fun h => e h.symm)]
theorem made_ubC (n : Nat) : madeCells #[.int .u8 0] n = ubC n fun _ => 0 := by
 refine Array.ext (by simp [madeCells, ubC]) (fun i h1 h2 => ?_)
 simp [madeCells, ubC, Nat.mod_one]
theorem infoBK : (Tryz.prog.info? 5).map (fun i => (i.zero, i.size, i.bytes)) = some (some (.int .u8 0), 1, 1) := by kernel_rfl
theorem info_parts {t : TypeId} {v : Value} {m n : Nat} (h : (Tryz.prog.info? t).map (fun i => (i.zero, i.size, i.bytes)) = some (some v, m, n)) : ∃ i, Tryz.prog.info? t = some i ∧ i.zero = some v ∧ i.size = m ∧ i.bytes = n := by
 cases hi : Tryz.prog.info? t with
 | none => rw [hi] at h; cases h
 | some i =>
  rw [hi] at h
  simp at h
  exact ⟨i, rfl, h.1, h.2.1, h.2.2⟩
theorem run_mkB (W : World) (n : Nat) (hn : n ≤ 1073741824) : (Instr.makeSlice 97 (.int .i64 (n : Int)) (.int .i64 (n : Int))).run Tryz.prog W = .ok (.slice (some ⟨W.heap.size, 0, none⟩) n n) (W.alloc (.cells (ubC n fun _ => 0) 5)) := by
 obtain ⟨i0, hi, hz0, hz1, hz2⟩ := info_parts infoBK
 have h := run_make (P := Tryz.prog) W 97 5 i0 (.int .u8 0) Tryz.underlying97 hi hz0 .i64 .i64 (n : Int) (n : Int) (by omega) (by omega) (by rw [hz2]; omega) (by omega)
 rw [hz1, Nat.mul_one, Int.toNat_natCast, show Value.cells (.int .u8 0) = #[.int .u8 0] from rfl, made_ubC] at h
 exact h
def pcN (m j : Nat) : Nat := (if j = 0 then 1 else 0) + (if j = m then 128 else 0)
theorem pcN_lt (m j : Nat) : pcN m j < 256 := by unfold pcN; split <;> split <;> omega
theorem pcN_at (m j : Nat) : pcN m j = if j = m then pcN m m else if j = 0 then 1 else 0 := by
 by_cases e : j = m
 ·subst e; rw [if_pos rfl]
 ·rw [if_neg e]; unfold pcN; rw [if_neg e, Nat.add_zero]
def pcL (m : Nat) : List UInt8 := (List.range (m + 1)).map fun j => UInt8.ofNat (pcN m j)
def pmN (s : ByteArray) : Nat := 135 - s.size % 136
def padS (s : ByteArray) : ByteArray := s ++ ⟨(pcL (pmN s)).toArray⟩
theorem conv_backT {W : World} {g m cap : Nat} {t : TypeId} {A : Nat → Nat} (hA : ∀ j, A j < 256) (h : Has W g t (ubC m A)) : (convert 97 9 (.slice (some ⟨g, 0, none⟩) m cap)).run Tryz.prog W = .ok (.string ⟨((List.range m).map fun j => UInt8.ofNat (A j)).toArray⟩) W := by
 have hl : ((List.range m).map fun j => UInt8.ofNat (A j)).length = m := by simp
 have h2 := run_convert_bytes_back (P := Tryz.prog) W 97 9 5 ⟨g, 0, none⟩ cap ((List.range m).map fun j => UInt8.ofNat (A j)) Tryz.underlying97 Tryz.underlying5 Tryz.underlying9 (fun j hj => by
  have hj2 : j < m := by simpa using hj
  have hadd : (⟨g, 0, none⟩ : Addr).add j = ⟨g, j, none⟩ := by unfold Addr.add; split <;> simp_all
  rw [hadd, h.cell j _ (ubC_get m A j hj2)]
  congr 2
  simp only [List.getElem_map, List.getElem_range]
  rw [UInt8.toNat_ofNat', Nat.mod_eq_of_lt (show A j < 2 ^ 8 from hA j)])
 rw [hl] at h2
 exact h2
theorem conv_back {W : World} {g m cap : Nat} {A : Nat → Nat} (hA : ∀ j, A j < 256) (h : Has W g 5 (ubC m A)) : (convert 97 9 (.slice (some ⟨g, 0, none⟩) m cap)).run Tryz.prog W = .ok (.string ⟨((List.range m).map fun j => UInt8.ofNat (A j)).toArray⟩) W := conv_backT hA h
theorem pad_ret (s : ByteArray) (hs : s.size ≤ 1073741824) : Ret Tryz.prog 77 #[.string s] (.string (padS s)) := by
 intro w
 have hr : s.size % 136 < 136 := Nat.mod_lt _ (by omega)
 have e1 : ((s.size : Nat) : Int).tmod 136 = ((s.size % 136 : Nat) : Int) := by rw [Int.tmod_eq_emod_of_nonneg (by omega)]; omega
 have e2 : (136 : Int) - ((s.size % 136 : Nat) : Int) = ((pmN s + 1 : Nat) : Int) := by unfold pmN; omega
 have hm : pmN s < 136 := by unfold pmN; omega
 have hmk := run_mkB w (pmN s + 1) (by omega)
 have LM := Has.new w 5 (ubC (pmN s + 1) fun _ => 0)
 have Q := newA w (.cells (ubC (pmN s + 1) fun _ => 0) 5)
 obtain ⟨W1, hW1⟩ : ∃ W1, w.alloc (.cells (ubC (pmN s + 1) fun _ => 0) 5) = W1 := ⟨_, rfl⟩
 rw [hW1] at hmk LM Q
 clear hW1
 have HP : Hid (padS s = s ++ ⟨(pcL (pmN s)).toArray⟩) := hid rfl
 have hz0 := LM.cell 0 _ (ubC_get _ _ 0 (by omega))
 have hf0 := LM.frozen 0
 have L1 := LM.set 0 (.int .u8 ((1 : Nat) : Int))
 have hsl : ((s.size : Nat) : Int) ≤ 1073741824 := by omega
 generalize pmN s = m at *
 rw [ubC_set (m + 1) _ (fun j => if j = 0 then 1 else 0) 0 1 (fun j _ => rfl)] at L1
 have hv0 : (if m = 0 then 1 else 0) ≤ 1 := by split <;> omega
 have hpm : pcN m m = (if m = 0 then 1 else 0) + 128 := by unfold pcN; rw [if_pos rfl]
 have hcm := L1.cell m _ (ubC_get _ _ m (by omega))
 have hL := L1.set m (.int .u8 ((pcN m m : Nat) : Int))
 rw [ubC_set (m + 1) _ (pcN m) m (pcN m m) (fun j _ => pcN_at m j), hpm] at hL
 generalize (if m = 0 then 1 else 0 : Nat) = v0 at *
 have hcv := conv_back (cap := m + 1) (pcN_lt m) hL
 have hfm := L1.frozen m
 have HQ := hid ((Q.setCell (p := ⟨w.heap.size, 0, none⟩) (Nat.le_refl _) (.int .u8 1)).setCell (p := ⟨w.heap.size, m, none⟩) (Nat.le_refl _) (.int .u8 ((v0 + 128 : Nat) : Int)))
 have hmI : (m : Int) < 136 := by omega
 have hvI : (v0 : Int) ≤ 1 := by omega
 have e3 : (136 : Int) - ((s.size % 136 : Nat) : Int) = (m : Int) + 1 := by omega
 rw [show ((m + 1 : Nat) : Int) = (m : Int) + 1 from rfl] at hmk
 simp only [Int.natCast_add, Int.cast_ofNat_Int] at hcv HQ hz0 hcm hf0 hfm
 change (convert _ _ (.slice _ (m + 1) (m + 1))).run _ _ = .ok (.string ⟨(pcL m).toArray⟩) _ at hcv
 have hpl : ¬ 9223372036854775807 < s.size + (pcL m).length := by simp [pcL]; omega
 clear LM Q L1 hL hs e2 hm hpm hv0
 generalize ((s.size % 136 : Nat) : Int) = r at *
 generalize pcL m = pl at *
 go_enter Tryz.func77, Tryz.ntmps77
 go_wp2
 go_ret
 rw [HP.out]
 exact ⟨rfl, HQ.out⟩
theorem lt_of_cell {W : World} {b j : Nat} {v : Value} (h : W.cell? ⟨b, j, none⟩ = some v) : b < W.heap.size := by
 rcases Nat.lt_or_ge b W.heap.size with h' | h'
 ·exact h'
 ·simp [World.cell?, Array.getElem?_eq_none h'] at h
theorem chunk_any (g n cap : Nat) (w : World) :
  Calls Tryz.prog 76 #[.slice (some ⟨g, 0, none⟩) n cap, .int .i64 136] w fun e w' => e = .returned (.func (.func 104) #[] #[.pointer (some ⟨w.heap.size, 0, none⟩), .pointer (some ⟨w.heap.size + 1, 0, none⟩)]) ∧ w' = (w.alloc (.cells #[.slice (some ⟨g, 0, none⟩) n cap] 97)).alloc (.cells #[.int .i64 136] 3) := by
 have L := (Has.new (w.alloc (.cells #[.slice (some ⟨g, 0, none⟩) n cap] 97)) 3 #[.int .i64 136])
 simp only [World.size_alloc] at L
 have k0 := L.cell 0 _ rfl
 clear L
 go_enter Tryz.func76, Tryz.ntmps76
 go_wp2
 go_ret
 exact ⟨rfl, rfl⟩
theorem chunk_seq (n : Nat) (hn : 1 ≤ n) (N g cap b c : Nat) (hN : N ≤ 7895160) (hcap : 136 * N ≤ cap) (hmax : cap ≤ 9223372036854775807) (w : World) (hb : b < w.heap.size) (hcl : c < w.heap.size)
  (kb : w.cell? ⟨b, 0, none⟩ = some (.slice (some ⟨g, 0, none⟩) (136 * N) cap)) (kc : w.cell? ⟨c, 0, none⟩ = some (.int .i64 136)) :
  SeqN Fence.wide n Tryz.prog 104 #[.pointer (some ⟨b, 0, none⟩), .pointer (some ⟨c, 0, none⟩)] (fun k => #[.slice (some ⟨g, 136 * k, none⟩) 136 136]) (KeepsAt [b, c]) N w := by
 intro l J Jx W hW hJA _ hY h0
 have HA := hid hJA
 have HY := hid hY
 clear hJA hY
 have kb' := (hW.cell (p := ⟨b, 0, none⟩) hb).trans kb
 have kc' := (hW.cell (p := ⟨c, 0, none⟩) hcl).trans kc
 clear kb kc
 have hmx : Tryz.prog.follows .mixedOrders = true := by kernel_rfl
 refine callsIn_of_wp Tryz.func104 rfl trivial ?_ rfl
 simp only [Tryz.ntmps104, List.size_toArray, List.length_cons, List.length_nil, Nat.reduceAdd, Nat.reduceSub, Array.replicate_succ, Array.replicate_zero, List.push_toArray, List.append_toArray, List.nil_append, List.cons_append]
 gi_wp2
 gi_loopw [4] (fun i wr => ∃ k : Nat, k ≤ N ∧ i = .int .i64 ((136 * k : Nat) : Int) ∧ J k wr ∧ KeepsAt [b, c] W wr) (fun i _ => 136 * N - (intOf i).toNat)
 case atStart => exact ⟨0, Nat.zero_le _, rfl, h0, KeepsAt.refl _ _⟩
 case round =>
  obtain ⟨k, hk, rfl, hJs, hnx⟩ := hrel
  have kbx := (hnx.cell (p := ⟨b, 0, none⟩) (by simp)).trans kb'
  have kcx := (hnx.cell (p := ⟨c, 0, none⟩) (by simp)).trans kc'
  clear kb' kc'
  by_cases hlt : k < N
  ·have hstep : ((136 * (k + 1) : Nat) : Int) = ((136 * k : Nat) : Int) + 136 := by omega
   have h1 : ((136 * k : Nat) : Int) + 136 ≤ ((136 * N : Nat) : Int) := by omega
   have h2 : ((136 * N : Nat) : Int) ≤ (cap : Int) := by omega
   have h3 : (cap : Int) ≤ 9223372036854775807 := by omega
   have HLT := hid hlt
   have HST := hid hstep
   have lb := lt_of_cell kbx
   have lc := lt_of_cell kcx
   have HNX := hid hnx
   have HJ := hid hJs
   have ex : ∀ x : Ext wr, x.w.cell? ⟨b, 0, none⟩ = some (.slice (some ⟨g, 0, none⟩) (136 * N) cap) := fun x => (x.below.cell (p := ⟨b, 0, none⟩) lb).trans kbx
   have ey : ∀ x : Ext wr, x.w.cell? ⟨c, 0, none⟩ = some (.int .i64 136) := fun x => (x.below.cell (p := ⟨c, 0, none⟩) lc).trans kcx
   have HYk := hid (HY.out k)
   clear hk hlt hstep hnx hJs
   generalize 136 * N = n1 at *
   generalize 136 * k = i at *
   gi_wp2_with fail
   refine wpIn_region_mix (C := Grows wr) free_wide [some true, some true, some true, some true, some true, some true, none] hmx (by kernel_rfl) (by kernel_rfl) (grows_refl wr) ?_
   simp only [headOf, tailOf]
   repeat (go_big_quiet_step (fail))
   refine wpQuiet_nil ?_
   rintro _ ⟨x, rfl⟩
   have hJ2 := HA.out k wr x.w none HJ.out (grown_of_below x.below none) (fun r e => by cases e)
   have hK2 := hid (HNX.out.trans (KeepsAt.below (KeepsAt.refl _ _) x.below (fun b' hb' => by simp at hb'; rcases hb' with rfl | rfl <;> assumption)))
   obtain ⟨fn, tmps, assign, body, hy, hR⟩ := HYk.out x.w HLT.out hJ2
   have ex' := ex x
   have ey' := ey x
   clear ex ey hJ2 kbx kcx lb lc
   go_wp2
   rw [calmPost_normal]
   gi_wp2
   refine hR.mono ?_
   rintro e W3 (⟨rfl, hJ3, hk3⟩ | ⟨rfl, hJx3⟩)
   ·have ey3 := (hk3.cell (p := ⟨c, 0, none⟩) (by simp)).trans ey'
    have HJ3 := hid hJ3
    have HK3 := hid hk3
    clear ex' ey' hk3 hJ3
    gi_wp2
    go_roundw
    case rel => exact ⟨k + 1, HLT.out, by rw [HST.out], HJ3.out, hK2.out.trans HK3.out⟩
    case measure => simp [intOf]; omega
   ·gi_wp2
    refine bodyPost_ret (results_none rfl _ _ _) rfl ?_
    exact ⟨⟨_, rfl⟩, .inr ⟨k, HLT.out, hJx3⟩⟩
  ·obtain rfl : k = N := by omega
   gi_wp2
   go_end0
   exact ⟨⟨_, rfl⟩, .inl hJs⟩
def absN (A D : Nat → Nat) : Nat → Nat → Nat
 | 0, j => A j
 | k + 1, j => if j = k / 8 then absN A D k j ^^^ (D k * 2 ^ (8 * (k % 8))) else absN A D k j
theorem sh_lt (d k : Nat) (hd : d < 256) : d * 2 ^ (8 * (k % 8)) < 2 ^ 64 := by
 have h : 8 * (k % 8) ≤ 56 := by omega
 calc d * 2 ^ (8 * (k % 8)) ≤ d * 2 ^ 56 := Nat.mul_le_mul_left _ (Nat.pow_le_pow_right (by omega) h)
  _ < 2 ^ 64 := by omega
theorem absN_lt (A D : Nat → Nat) (hA : ∀ j, A j < 2 ^ 64) (hD : ∀ j, D j < 256) : ∀ k j, absN A D k j < 2 ^ 64
 | 0, j => hA j
 | k + 1, j => by
  unfold absN
  split
  ·exact Nat.xor_lt_two_pow (absN_lt A D hA hD k j) (sh_lt _ _ (hD k))
  ·exact absN_lt A D hA hD k j
theorem absorb_calls (B g o : Nat) (A D : Nat → Nat) (hA : ∀ j, A j < 2 ^ 64) (hD : ∀ j, D j < 256) (hg : g ≠ B) (w : World) (hB : Has w B 112 (luC 25 A)) (hc : ∀ j, j < 136 → w.cell? ⟨g, o + j, none⟩ = some (.int .u8 ((D j : Nat) : Int))) :
  Calls Tryz.prog 78 #[.pointer (some ⟨B, 0, none⟩), .slice (some ⟨g, o, none⟩) 136 136] w fun e w' => (∃ v, e = .returned v) ∧ Has w' B 112 (luC 25 (absN A D 136)) ∧ w.grownBy w' (some B) := by
 have hgl := lt_of_cell (hc 0 (by omega))
 have hmx : Tryz.prog.follows .mixedOrders = true := by kernel_rfl
 have G := grown_of_below (Below.refl w.heap.size w) (some B)
 go_enter Tryz.func78, Tryz.ntmps78
 go_wp2
 go_loopw [8] (fun i wr => ∃ k : Nat, k ≤ 136 ∧ i = .int .i64 (k : Int) ∧ Has wr B 112 (luC 25 (absN A D k)) ∧ w.grownBy wr (some B)) (fun i _ => 136 - (intOf i).toNat)
 case atStart => exact ⟨0, by omega, rfl, hB, G⟩
 case round =>
  clear G
  obtain ⟨k, hk, rfl, LA, G⟩ := hrel
  by_cases hlt : k < 136
  ·have hkI : (k : Int) < 136 := by omega
   have kd : wr.cell? ⟨g, o + k, none⟩ = some (.int .u8 ((D k : Nat) : Int)) := (World.cell?_of_block (w := w) (G.block g hgl (fun e => hg (Option.some.inj e)))).trans (hc k hlt)
   have e1 : (k : Int).tdiv 8 = ((k / 8 : Nat) : Int) := by rw [Int.tdiv_eq_ediv_of_nonneg (by omega)]; omega
   have e2 : (k : Int).tmod 8 = ((k % 8 : Nat) : Int) := by rw [Int.tmod_eq_emod_of_nonneg (by omega)]; omega
   have e3 : ((k % 8 : Nat) : Int) * 8 = ((8 * (k % 8) : Nat) : Int) := by omega
   have hw : IntKind.u64.wrap ((D k : Int) * 2 ^ (8 * (k % 8))) = ((D k * 2 ^ (8 * (k % 8)) : Nat) : Int) := by
    have := sh_lt (D k) k (hD k)
    rw [IntKind.wrap_u64, show ((D k : Int) * 2 ^ (8 * (k % 8))) = ((D k * 2 ^ (8 * (k % 8)) : Nat) : Int) by rw [Int.natCast_mul, Int.natCast_pow]; rfl]
    omega
   have hx := xor_i (absN A D k (k / 8)) (D k * 2 ^ (8 * (k % 8))) (absN_lt A D hA hD k _) (sh_lt _ _ (hD k))
   have hS' : ∀ i, i < 25 → absN A D (k + 1) i = if i = k / 8 then absN A D k (k / 8) ^^^ (D k * 2 ^ (8 * (k % 8))) else absN A D k i := fun i _ => by
    show (if i = k / 8 then absN A D k i ^^^ (D k * 2 ^ (8 * (k % 8))) else absN A D k i) = _
    by_cases e : i = k / 8
    ·rw [if_pos e, if_pos e, e]
    ·rw [if_neg e, if_neg e]
   have h8 : k / 8 < 25 := by omega
   have hs64 : 8 * (k % 8) < 64 := by omega
   have hd8 := hD k
   have kA : ∀ x : Ext wr, x.w.cell? ⟨B, k / 8, none⟩ = some (.int .u64 ((absN A D k (k / 8) : Nat) : Int)) := fun x => (LA.later x.below).cell _ _ (luC_get 25 _ _ h8)
   have kz : ∀ x : Ext wr, x.w.frozen? ⟨B, k / 8, none⟩ = false := fun x => (LA.later x.below).frozen _
   have HLT := hid hlt
   have HA := hid LA
   have HG := hid G
   clear hlt hk LA G hc hB
   generalize absN A D k (k / 8) ^^^ (D k * 2 ^ (8 * (k % 8))) = r at *
   generalize absN A D k (k / 8) = c at *
   generalize D k * 2 ^ (8 * (k % 8)) = v at *
   generalize D k = d at *
   generalize 8 * (k % 8) = s at *
   generalize k % 8 = k8 at *
   generalize k / 8 = i8 at *
   have hd8I : (d : Int) < 256 := by omega
   have hsI : (s : Int) < 64 := by omega
   have h8I : (i8 : Int) < 25 := by omega
   have HS' := hid hS'
   clear hS' h8 hs64 hd8 hA hD
   go_wp2_with fail
   refine wp_region_mix (C := Grows wr) [some true, some true, some true, some true, some true, some true, some true, some true, some true, some true, some true, some true, some true, some true, some true, none] hmx (by kernel_rfl) (by kernel_rfl) (grows_refl wr) ?_
   simp only [headOf, tailOf]
   repeat (go_big_quiet_step (fail))
   refine wpQuiet_nil ?_
   rintro _ ⟨x, rfl⟩
   have N1 := (HA.out.later x.below).set i8 (.int .u64 ((r : Nat) : Int))
   rw [luC_set 25 _ (absN A D (k + 1)) i8 r HS'.out] at N1
   have H1 := hid N1
   have H2 := hid (grown_set (grown_then_below HG.out x.below) (p := ⟨B, i8, none⟩) (.inl rfl) (.int .u64 ((r : Nat) : Int)))
   have kA' := kA x
   have kz' := kz x
   clear kA kz kd N1
   go_wp2
   rw [calmPost_normal]
   go_wp2
   go_roundw
   case rel => exact ⟨k + 1, by have := HLT.out; omega, by simp, H1.out, H2.out⟩
   case measure => simp [intOf]; omega
  ·obtain rfl : k = 136 := by omega
   have H1 := hid LA
   have H2 := hid G
   clear LA G hk hlt hc hB
   go_wp2
   go_end0
   exact ⟨⟨_, rfl⟩, H1.out, H2.out⟩
def sqB (A : Nat → Nat) (j : Nat) : Nat := A (j / 8) / 2 ^ (8 * (j % 8)) % 256
theorem sqB_lt (A : Nat → Nat) (j : Nat) : sqB A j < 256 := Nat.mod_lt _ (by omega)
def sqK (A : Nat → Nat) (k j : Nat) : Nat := if j < k then sqB A j else 0
def sqS (A : Nat → Nat) : ByteArray := ⟨((List.range 32).map fun j => UInt8.ofNat (sqB A j)).toArray⟩
theorem squeezed_calls (B : Nat) (A : Nat → Nat) (w : World) (hB : Has w B 112 (luC 25 A)) :
  Calls Tryz.prog 80 #[.pointer (some ⟨B, 0, none⟩)] w fun e w' => e = .returned (.string (sqS A)) ∧ Below w.heap.size w w' := by
 have hBl := hB.lt
 have HP : Hid (sqS A = ⟨((List.range 32).map fun j => UInt8.ofNat (sqB A j)).toArray⟩) := hid rfl
 have LB := hB.alloc (.cells #[.int .u8 0, .int .u8 0, .int .u8 0, .int .u8 0, .int .u8 0, .int .u8 0, .int .u8 0, .int .u8 0, .int .u8 0, .int .u8 0, .int .u8 0, .int .u8 0, .int .u8 0, .int .u8 0, .int .u8 0, .int .u8 0, .int .u8 0, .int .u8 0, .int .u8 0, .int .u8 0, .int .u8 0, .int .u8 0, .int .u8 0, .int .u8 0, .int .u8 0, .int .u8 0, .int .u8 0, .int .u8 0, .int .u8 0, .int .u8 0, .int .u8 0, .int .u8 0] 138)
 have LO := Has.new w 138 #[.int .u8 0, .int .u8 0, .int .u8 0, .int .u8 0, .int .u8 0, .int .u8 0, .int .u8 0, .int .u8 0, .int .u8 0, .int .u8 0, .int .u8 0, .int .u8 0, .int .u8 0, .int .u8 0, .int .u8 0, .int .u8 0, .int .u8 0, .int .u8 0, .int .u8 0, .int .u8 0, .int .u8 0, .int .u8 0, .int .u8 0, .int .u8 0, .int .u8 0, .int .u8 0, .int .u8 0, .int .u8 0, .int .u8 0, .int .u8 0, .int .u8 0, .int .u8 0]
 have Q := newA w (.cells #[.int .u8 0, .int .u8 0, .int .u8 0, .int .u8 0, .int .u8 0, .int .u8 0, .int .u8 0, .int .u8 0, .int .u8 0, .int .u8 0, .int .u8 0, .int .u8 0, .int .u8 0, .int .u8 0, .int .u8 0, .int .u8 0, .int .u8 0, .int .u8 0, .int .u8 0, .int .u8 0, .int .u8 0, .int .u8 0, .int .u8 0, .int .u8 0, .int .u8 0, .int .u8 0, .int .u8 0, .int .u8 0, .int .u8 0, .int .u8 0, .int .u8 0, .int .u8 0] 138)
 go_enter Tryz.func80, Tryz.ntmps80
 go_wp2
 obtain ⟨W0, hW0⟩ : ∃ W0, w.alloc (.cells #[.int .u8 0, .int .u8 0, .int .u8 0, .int .u8 0, .int .u8 0, .int .u8 0, .int .u8 0, .int .u8 0, .int .u8 0, .int .u8 0, .int .u8 0, .int .u8 0, .int .u8 0, .int .u8 0, .int .u8 0, .int .u8 0, .int .u8 0, .int .u8 0, .int .u8 0, .int .u8 0, .int .u8 0, .int .u8 0, .int .u8 0, .int .u8 0, .int .u8 0, .int .u8 0, .int .u8 0, .int .u8 0, .int .u8 0, .int .u8 0, .int .u8 0, .int .u8 0] 138) = W0 := ⟨_, rfl⟩
 rw [hW0] at LB LO Q ⊢
 clear hW0
 rw [show (#[.int .u8 0, .int .u8 0, .int .u8 0, .int .u8 0, .int .u8 0, .int .u8 0, .int .u8 0, .int .u8 0, .int .u8 0, .int .u8 0, .int .u8 0, .int .u8 0, .int .u8 0, .int .u8 0, .int .u8 0, .int .u8 0, .int .u8 0, .int .u8 0, .int .u8 0, .int .u8 0, .int .u8 0, .int .u8 0, .int .u8 0, .int .u8 0, .int .u8 0, .int .u8 0, .int .u8 0, .int .u8 0, .int .u8 0, .int .u8 0, .int .u8 0, .int .u8 0] : Array Value) = ubC 32 (sqK A 0) from rfl] at LO
 go_loopw [5] (fun i wr => ∃ k : Nat, k ≤ 32 ∧ i = .int .i64 (k : Int) ∧ Has wr B 112 (luC 25 A) ∧ Has wr w.heap.size 138 (ubC 32 (sqK A k)) ∧ Below w.heap.size w wr) (fun i _ => 32 - (intOf i).toNat)
 case atStart => exact ⟨0, by omega, rfl, LB, LO, Q⟩
 case round =>
  clear LB LO Q
  obtain ⟨k, hk, rfl, LB, LO, Q⟩ := hrel
  by_cases hlt : k < 32
  ·have hkI : (k : Int) < 32 := by omega
   have e1 : (k : Int).tdiv 8 = ((k / 8 : Nat) : Int) := by rw [Int.tdiv_eq_ediv_of_nonneg (by omega)]; omega
   have e2 : (k : Int).tmod 8 = ((k % 8 : Nat) : Int) := by rw [Int.tmod_eq_emod_of_nonneg (by omega)]; omega
   have e3 : ((k % 8 : Nat) : Int) * 8 = ((8 * (k % 8) : Nat) : Int) := by omega
   have hw : IntKind.u8.wrap (((A (k / 8) : Nat) : Int) / 2 ^ (8 * (k % 8))) = ((sqB A k : Nat) : Int) := by
    rw [show (((A (k / 8) : Nat) : Int) / 2 ^ (8 * (k % 8))) = ((A (k / 8) / 2 ^ (8 * (k % 8)) : Nat) : Int) by rw [Int.natCast_ediv, Int.natCast_pow]; rfl]
    unfold sqB
    simp only [IntKind.wrap, IntKind.bits, IntKind.signed]
    generalize A (k / 8) / 2 ^ (8 * (k % 8)) = q
    simp
   have hS' : ∀ i, i < 32 → sqK A (k + 1) i = if i = k then sqB A k else sqK A k i := fun i _ => by
    unfold sqK
    by_cases e : i = k
    ·rw [if_pos e, if_pos (by omega), e]
    ·rw [if_neg e]
     by_cases e2 : i < k
     ·rw [if_pos e2, if_pos (by omega)]
     ·rw [if_neg e2, if_neg (by omega)]
   have h8 : k / 8 < 25 := by omega
   have hs64 : 8 * (k % 8) < 64 := by omega
   have kA := LB.cell _ _ (luC_get 25 A (k / 8) h8)
   have kO := LO.cell _ _ (ubC_get 32 _ k hlt)
   have kz := LO.frozen k
   have N1 := LO.set k (.int .u8 ((sqB A k : Nat) : Int))
   rw [ubC_set 32 _ (sqK A (k + 1)) k (sqB A k) hS'] at N1
   have H1 := hid N1
   have H2 := hid (Q.setCell (p := ⟨w.heap.size, k, none⟩) (Nat.le_refl _) (.int .u8 ((sqB A k : Nat) : Int)))
   have H3 := hid (LB.other (p := ⟨w.heap.size, k, none⟩) (show B ≠ w.heap.size by omega) (.int .u8 ((sqB A k : Nat) : Int)))
   have HLT := hid hlt
   clear hlt hk LB LO Q hS' N1
   generalize sqB A k = r at *
   generalize A (k / 8) = c at *
   generalize 8 * (k % 8) = s at *
   generalize k % 8 = k8 at *
   generalize k / 8 = i8 at *
   have hsI : (s : Int) < 64 := by omega
   have h8I : (i8 : Int) < 25 := by omega
   clear h8 hs64
   go_wp2
   go_roundw
   case rel => exact ⟨k + 1, by have := HLT.out; omega, by simp, H3.out, H1.out, H2.out⟩
   case measure => simp [intOf]; omega
  ·obtain rfl : k = 32 := by omega
   have hL : Has wr w.heap.size 138 (ubC 32 (sqB A)) := by rw [ubC_congr 32 (sqB A) (sqK A 32) (fun j hj => by unfold sqK; rw [if_pos hj])]; exact LO
   have hcv := conv_backT (cap := 32) (sqB_lt A) hL
   have HQ := hid Q
   clear LB LO Q hk hlt hL
   generalize (List.range 32).map (fun j => UInt8.ofNat (sqB A j)) = pl at *
   go_wp2
   go_ret
   rw [HP.out]
   exact ⟨rfl, HQ.out⟩
def byN (p : ByteArray) (i : Nat) : Nat := (p.data.getD i 0).toNat
theorem byN_lt (p : ByteArray) (i : Nat) : byN p i < 256 := (p.data.getD i 0).toNat_lt
theorem byN_at (p : ByteArray) (i : Nat) (hi : i < p.size) : byN p i = (p.data[i]'hi).toNat := by
 unfold byN
 have hi' : i < p.data.size := hi
 rw [Array.getD_eq_getD_getElem?, Array.getElem?_eq_getElem hi']
 rfl
def blkN (p : ByteArray) : Nat → Nat → Nat
 | 0 => fun _ => 0
 | k + 1 => permN (absN (blkN p k) (fun j => byN p (136 * k + j)) 136)
theorem permN_lt (A : Nat → Nat) (hA : ∀ j, A j < 2 ^ 64) (j : Nat) : permN A j < 2 ^ 64 := permK_lt A hA 24 (Nat.le_refl _) j
theorem blkN_lt (p : ByteArray) : ∀ k j, blkN p k j < 2 ^ 64
 | 0, j => by show 0 < 2 ^ 64; decide
 | k + 1, j => permN_lt _ (absN_lt _ _ (blkN_lt p k) (fun j => byN_lt p _) 136) j
theorem padS_size (s : ByteArray) : (padS s).size = 136 * (s.size / 136 + 1) := by
 unfold padS
 rw [ByteArray.size_append]
 show s.size + (pcL (pmN s)).toArray.size = _
 simp [pcL, pmN]
 omega
def sumS (s : ByteArray) : ByteArray := sqS (blkN (padS s) (s.size / 136 + 1))
theorem keepsFrom_below {B : Nat} {W X : World} (h : Below W.heap.size W X) : KeepsFrom B W X := Ext.keeps ⟨X, h⟩ B
theorem keepsFrom_row {B a : Nat} (W : World) (ha : a < B) (cs : Array Value) : KeepsFrom B W (W.setRow a cs) :=
 ⟨by show _ ≤ (W.heap.modify a _).size; rw [Array.size_modify]; exact Nat.le_refl _, fun k o hB hk _ => (setRow_other (by omega)).trans hk⟩
structure SuSt (w : World) (g b c n cap : Nat) (og : Obj) (A : Nat → Nat) (W : World) : Prop where
 A : Has W w.heap.size 112 (luC 25 A)
 G : W.heap[g]? = some og
 B : Has W b 97 #[.slice (some ⟨g, 0, none⟩) n cap]
 C : Has W c 3 #[.int .i64 136]
 T : Tab W
 Q : Below w.heap.size w W
theorem SuSt.own (w : World) (g b c n cap B : Nat) (og : Obj) (hog : og.isCells = true) (hw : 0 < w.heap.size ∧ w.heap.size ≤ B) (A : Nat → Nat → Nat) : OwnFrom B (fun (k : Nat) W => SuSt w g b c n cap og (A k) W) := fun s X Y row hs hg hr =>
 ⟨hs.A.grown hg (fun r e => (hr r e).2), (hg.block g (Array.getElem?_eq_some_iff.1 hs.G).1 (fun e => by obtain ⟨o, ho, hc⟩ := (hr g e.symm).2; rw [hs.G] at ho; cases ho; rw [hog] at hc; cases hc)).trans hs.G, hs.B.grown hg (fun r e => (hr r e).2), hs.C.grown hg (fun r e => (hr r e).2),
  ⟨Nat.lt_of_lt_of_le hs.T.lt hg.size, fun i hi => (World.cell?_of_block (w := X) (hg.block 0 hs.T.lt (fun e => by have := (hr 0 e.symm).1; omega))).trans (hs.T.cell i hi)⟩,
  ⟨hg.os.trans hs.Q.os, hg.tape.trans hs.Q.tape, hg.output.trans hs.Q.output, Nat.le_trans hs.Q.size hg.size, fun k hk => (hg.block k (Nat.lt_of_lt_of_le hk hs.Q.size) (fun e => by have := (hr k e.symm).1; omega)).trans (hs.Q.block k hk)⟩⟩
theorem sum_ret (s : ByteArray) (hs : s.size ≤ 1048576) : RetT Tryz.prog 48 #[.string s] (.tuple #[.string (sumS s), .int .i64 0]) := by
 intro w HT
 have hw0 := HT.lt
 have hmx : Tryz.prog.follows .mixedOrders = true := by kernel_rfl
 have hsI : (s.size : Int) ≤ 1048576 := by omega
 have hps := padS_size s
 have HPAD := hid (pad_ret s (by omega))
 have hN : s.size / 136 + 1 ≤ 7895160 := by omega
 have HF : Hid (sumS s = sqS (blkN (padS s) (s.size / 136 + 1))) := hid rfl
 have HPS := hid hps
 clear hps
 generalize padS s = ps at *
 generalize s.size / 136 + 1 = N at *
 have HABS := hid absorb_calls
 have HPER := hid permute_ret
 have HSQ := hid squeezed_calls
 have LA := Has.new w 112 #[.int .u64 0, .int .u64 0, .int .u64 0, .int .u64 0, .int .u64 0, .int .u64 0, .int .u64 0, .int .u64 0, .int .u64 0, .int .u64 0, .int .u64 0, .int .u64 0, .int .u64 0, .int .u64 0, .int .u64 0, .int .u64 0, .int .u64 0, .int .u64 0, .int .u64 0, .int .u64 0, .int .u64 0, .int .u64 0, .int .u64 0, .int .u64 0, .int .u64 0]
 have HLA := hid LA
 have H1 := hid (one_luC 25 (fun _ => 0))
 clear LA
 refine (callsIn_wide (n := 8)).1 ?_
 refine callsIn_of_wp_marks Tryz.func48 rfl trivial ?_ rfl
 simp only [Tryz.ntmps48, List.size_toArray, List.length_cons, List.length_nil, Nat.reduceAdd, Nat.reduceSub, Array.replicate_succ, Array.replicate_zero, List.push_toArray, List.append_toArray, List.nil_append, List.cons_append]
 gi_wp2_with (refine wpListIn_storeB free_wide rfl _ _ _ rfl w.heap.size #[.int .u64 0, .int .u64 0, .int .u64 0, .int .u64 0, .int .u64 0, .int .u64 0, .int .u64 0, .int .u64 0, .int .u64 0, .int .u64 0, .int .u64 0, .int .u64 0, .int .u64 0, .int .u64 0, .int .u64 0, .int .u64 0, .int .u64 0, .int .u64 0, .int .u64 0, .int .u64 0, .int .u64 0, .int .u64 0, .int .u64 0, .int .u64 0, .int .u64 0] rfl rfl _ #[.int .u64 0, .int .u64 0, .int .u64 0, .int .u64 0, .int .u64 0, .int .u64 0, .int .u64 0, .int .u64 0, .int .u64 0, .int .u64 0, .int .u64 0, .int .u64 0, .int .u64 0, .int .u64 0, .int .u64 0, .int .u64 0, .int .u64 0, .int .u64 0, .int .u64 0, .int .u64 0, .int .u64 0, .int .u64 0, .int .u64 0, .int .u64 0, .int .u64 0] HLA.out info25 rfl H1.out ?_)
 have LA : Has ((w.alloc (.cells #[.int .u64 0, .int .u64 0, .int .u64 0, .int .u64 0, .int .u64 0, .int .u64 0, .int .u64 0, .int .u64 0, .int .u64 0, .int .u64 0, .int .u64 0, .int .u64 0, .int .u64 0, .int .u64 0, .int .u64 0, .int .u64 0, .int .u64 0, .int .u64 0, .int .u64 0, .int .u64 0, .int .u64 0, .int .u64 0, .int .u64 0, .int .u64 0, .int .u64 0] 112)).setRow w.heap.size #[.int .u64 0, .int .u64 0, .int .u64 0, .int .u64 0, .int .u64 0, .int .u64 0, .int .u64 0, .int .u64 0, .int .u64 0, .int .u64 0, .int .u64 0, .int .u64 0, .int .u64 0, .int .u64 0, .int .u64 0, .int .u64 0, .int .u64 0, .int .u64 0, .int .u64 0, .int .u64 0, .int .u64 0, .int .u64 0, .int .u64 0, .int .u64 0, .int .u64 0]) w.heap.size 112 (luC 25 (blkN ps 0)) := HLA.out.rowK
 have Q : Below w.heap.size w ((w.alloc (.cells #[.int .u64 0, .int .u64 0, .int .u64 0, .int .u64 0, .int .u64 0, .int .u64 0, .int .u64 0, .int .u64 0, .int .u64 0, .int .u64 0, .int .u64 0, .int .u64 0, .int .u64 0, .int .u64 0, .int .u64 0, .int .u64 0, .int .u64 0, .int .u64 0, .int .u64 0, .int .u64 0, .int .u64 0, .int .u64 0, .int .u64 0, .int .u64 0, .int .u64 0] 112)).setRow w.heap.size #[.int .u64 0, .int .u64 0, .int .u64 0, .int .u64 0, .int .u64 0, .int .u64 0, .int .u64 0, .int .u64 0, .int .u64 0, .int .u64 0, .int .u64 0, .int .u64 0, .int .u64 0, .int .u64 0, .int .u64 0, .int .u64 0, .int .u64 0, .int .u64 0, .int .u64 0, .int .u64 0, .int .u64 0, .int .u64 0, .int .u64 0, .int .u64 0, .int .u64 0]) := below_row (newA w (.cells #[.int .u64 0, .int .u64 0, .int .u64 0, .int .u64 0, .int .u64 0, .int .u64 0, .int .u64 0, .int .u64 0, .int .u64 0, .int .u64 0, .int .u64 0, .int .u64 0, .int .u64 0, .int .u64 0, .int .u64 0, .int .u64 0, .int .u64 0, .int .u64 0, .int .u64 0, .int .u64 0, .int .u64 0, .int .u64 0, .int .u64 0, .int .u64 0, .int .u64 0] 112)) (Nat.le_refl _) _
 have HT := (HT.alloc (.cells #[.int .u64 0, .int .u64 0, .int .u64 0, .int .u64 0, .int .u64 0, .int .u64 0, .int .u64 0, .int .u64 0, .int .u64 0, .int .u64 0, .int .u64 0, .int .u64 0, .int .u64 0, .int .u64 0, .int .u64 0, .int .u64 0, .int .u64 0, .int .u64 0, .int .u64 0, .int .u64 0, .int .u64 0, .int .u64 0, .int .u64 0, .int .u64 0, .int .u64 0] 112)).row hw0 #[.int .u64 0, .int .u64 0, .int .u64 0, .int .u64 0, .int .u64 0, .int .u64 0, .int .u64 0, .int .u64 0, .int .u64 0, .int .u64 0, .int .u64 0, .int .u64 0, .int .u64 0, .int .u64 0, .int .u64 0, .int .u64 0, .int .u64 0, .int .u64 0, .int .u64 0, .int .u64 0, .int .u64 0, .int .u64 0, .int .u64 0, .int .u64 0, .int .u64 0]
 obtain ⟨w1, hw1⟩ : ∃ w1, (w.alloc (.cells #[.int .u64 0, .int .u64 0, .int .u64 0, .int .u64 0, .int .u64 0, .int .u64 0, .int .u64 0, .int .u64 0, .int .u64 0, .int .u64 0, .int .u64 0, .int .u64 0, .int .u64 0, .int .u64 0, .int .u64 0, .int .u64 0, .int .u64 0, .int .u64 0, .int .u64 0, .int .u64 0, .int .u64 0, .int .u64 0, .int .u64 0, .int .u64 0, .int .u64 0] 112)).setRow w.heap.size #[.int .u64 0, .int .u64 0, .int .u64 0, .int .u64 0, .int .u64 0, .int .u64 0, .int .u64 0, .int .u64 0, .int .u64 0, .int .u64 0, .int .u64 0, .int .u64 0, .int .u64 0, .int .u64 0, .int .u64 0, .int .u64 0, .int .u64 0, .int .u64 0, .int .u64 0, .int .u64 0, .int .u64 0, .int .u64 0, .int .u64 0, .int .u64 0, .int .u64 0] = w1 := ⟨_, rfl⟩
 rw [hw1] at LA Q HT ⊢
 clear hw1 HLA H1
 refine (callsIn_free free_wide (HPAD.out _)).mono ?_
 rintro e w2 ⟨rfl, q⟩
 have LA := LA.later q
 have HT := HT.later q
 have Q := Q.trans (q.mono Q.size)
 have haw := LA.lt
 clear q HPAD
 have hcv := run_bytes_of_string (P := Tryz.prog) w2 9 97 5 ps Tryz.underlying9 Tryz.underlying97 Tryz.underlying5
 rw [HPS.out] at hcv
 have hcap := grownCap_ge w2 (136 * N) 0 5
 have hcap2 := grownCap_le_maxLen w2 (136 * N) 0 5 (by unfold maxLen; omega)
 obtain ⟨og, hog⟩ : ∃ og : Obj, .cells (bytesRow ps (grownCap w2 (136 * N) 0 5)) 5 ((bytesRow ps (grownCap w2 (136 * N) 0 5)).size, (bytesRow ps (grownCap w2 (136 * N) 0 5)).size + 1) = og := ⟨_, rfl⟩
 have hogc : og.isCells = true := by rw [← hog]; rfl
 have hog2 : ∀ (W : World) (g : Nat), W.heap[g]? = some og → ∀ i, i < 136 * N → W.cell? ⟨g, i, none⟩ = some (.int .u8 ((byN ps i : Nat) : Int)) := fun W g h i hi => by
  rw [← hog] at h
  have hb := bytesRow_at ps (grownCap w2 (136 * N) 0 5) i (show i < ps.size by rw [HPS.out]; exact hi)
  have he := byN_at ps i (show i < ps.size by rw [HPS.out]; exact hi)
  rw [he]
  simp only [World.cell?, h]
  exact hb
 rw [hog] at hcv
 have LG := World.alloc_heap_new w2.drew og
 have LA : Has (w2.drew.alloc og) w.heap.size 112 (luC 25 (blkN ps 0)) := Has.alloc (W := w2.drew) LA og
 have HT : Tab (w2.drew.alloc og) := Tab.alloc (W := w2.drew) ⟨HT.lt, HT.cell⟩ og
 have Q : Below w.heap.size w (w2.drew.alloc og) := Q.drew.alloc Q.size og
 have hgl : w2.heap.size < (w2.drew.alloc og).heap.size := by simp
 change (w2.drew.alloc og).heap[w2.heap.size]? = some og at LG
 obtain ⟨w3, hw3⟩ : ∃ w3, w2.drew.alloc og = w3 := ⟨_, rfl⟩
 rw [hw3] at hcv LG LA HT Q hgl
 clear hw3 hog
 generalize grownCap w2 (136 * N) 0 5 = cap at *
 generalize w2.heap.size = g at *
 gi_wp2_with fail
 clear hcv
 refine (callsIn_free free_wide (chunk_any _ _ _ _)).mono ?_
 rintro e w4 ⟨rfl, rfl⟩
 have LB := (Has.new w3 97 #[.slice (some ⟨g, 0, none⟩) (136 * N) cap]).alloc (.cells #[.int .i64 136] 3)
 have LC := Has.new (w3.alloc (.cells #[.slice (some ⟨g, 0, none⟩) (136 * N) cap] 97)) 3 #[.int .i64 136]
 simp only [World.size_alloc] at LC
 have LG : ((w3.alloc (.cells #[.slice (some ⟨g, 0, none⟩) (136 * N) cap] 97)).alloc (.cells #[.int .i64 136] 3)).heap[g]? = some og := (Below.heap_alloc _ _ _ (by simp; omega)).trans ((Below.heap_alloc _ _ _ hgl).trans LG)
 have LA := (LA.alloc (.cells #[.slice (some ⟨g, 0, none⟩) (136 * N) cap] 97)).alloc (.cells #[.int .i64 136] 3)
 have HT := (HT.alloc (.cells #[.slice (some ⟨g, 0, none⟩) (136 * N) cap] 97)).alloc (.cells #[.int .i64 136] 3)
 have Q := (Q.alloc Q.size (.cells #[.slice (some ⟨g, 0, none⟩) (136 * N) cap] 97)).alloc (by have := Q.size; simp; omega) (.cells #[.int .i64 136] 3)
 have hsz : ((w3.alloc (.cells #[.slice (some ⟨g, 0, none⟩) (136 * N) cap] 97)).alloc (.cells #[.int .i64 136] 3)).heap.size = w3.heap.size + 2 := by simp
 obtain ⟨W0, hW0⟩ : ∃ W0, (w3.alloc (.cells #[.slice (some ⟨g, 0, none⟩) (136 * N) cap] 97)).alloc (.cells #[.int .i64 136] 3) = W0 := ⟨_, rfl⟩
 rw [hW0] at LB LC LG LA HT Q hsz ⊢
 clear hW0
 generalize w3.heap.size = b at *
 have hJ0 : SuSt w g b (b + 1) (136 * N) cap og (blkN ps 0) W0 := ⟨LA, LG, LB, LC, HT, Q⟩
 have kb := LB.cell 0 _ rfl
 have kc := LC.cell 0 _ rfl
 clear LA LG LB LC HT Q
 have HLT := hid (blkN_lt ps)
 have HBY := hid (byN_lt ps)
 have hNs : ∀ k, k < N → ∀ j, j < 136 → 136 * k + j < 136 * N := fun k hk j hj => by omega
 have hm136 : 136 * N ≤ cap := by omega
 have hcm : cap ≤ 9223372036854775807 := by unfold maxLen at hcap2; omega
 have Hog2 := hid hog2
 have HNs := hid hNs
 clear hog2 hNs hcap hcap2
 gi_wp2_with fail
 generalize Value.bool (decide (1048576 < ((s.size : Nat) : Int))) = v8
 generalize Value.agg #[.int .u64 0, .int .u64 0, .int .u64 0, .int .u64 0, .int .u64 0, .int .u64 0, .int .u64 0, .int .u64 0, .int .u64 0, .int .u64 0, .int .u64 0, .int .u64 0, .int .u64 0, .int .u64 0, .int .u64 0, .int .u64 0, .int .u64 0, .int .u64 0, .int .u64 0, .int .u64 0, .int .u64 0, .int .u64 0, .int .u64 0, .int .u64 0, .int .u64 0] = v9
 refine wpIn_rangeFunc_N1 rfl (by omega) (gf := 104) (lb := #[.pointer (some ⟨b, 0, none⟩), .pointer (some ⟨b + 1, 0, none⟩)]) rfl trivial (enters_of Tryz.func104 (by kernel_rfl) rfl)
  (chunk_seq _ (by omega) N g cap b (b + 1) hN hm136 hcm W0 (by omega) (by omega) kb kc) KeepsAt.trans (KeepsAt.refl _) (KeepsAt.b (by simp; omega)) (fun _ _ => rfl)
  (fun k W => SuSt w g b (b + 1) (136 * N) cap og (blkN ps k) W) (fun _ _ _ => False) (SuSt.own w g b (b + 1) (136 * N) cap _ og hogc ⟨hw0, by have := hJ0.A.lt; omega⟩ (blkN ps)) (fun _ _ _ _ _ hs _ _ => hs) hJ0
  (fun k => { tmps := #[.string s, undef, .string ⟨#[]⟩, .int .i64 0, .pointer (some ⟨w.heap.size, 0, none⟩), .slice (some ⟨g, 136 * k, none⟩) 136 136, .string s, .int .i64 (s.size : Int), v8, v9, .string s, .string ps, .slice (some ⟨g, 0, none⟩) (136 * N) cap, .func (.func 104) #[] #[.pointer (some ⟨b, 0, none⟩), .pointer (some ⟨b + 1, 0, none⟩)], .slice (some ⟨g, 136 * k, none⟩) 136 136, undef, undef, undef, undef, undef], defers := [] }) ?assign ?body ?done ?stop
 case assign =>
  intro l k W K hkN hK
  clear hkN
  gi_wp2
  exact hK
 case body =>
  rintro l k W hl hkN hst
  have haW : w.heap.size < W0.heap.size := by have := hJ0.A.lt; omega
  have hgA : g ≠ w.heap.size := by omega
  have hcell : ∀ j, j < 136 → W.cell? ⟨g, 136 * k + j, none⟩ = some (.int .u8 ((byN ps (136 * k + j) : Nat) : Int)) := fun j hj => Hog2.out W g hst.G _ (HNs.out k hkN j hj)
  have hA := HLT.out k
  have hD := fun j => HBY.out (136 * k + j)
  have hAB := absN_lt (blkN ps k) (fun j => byN ps (136 * k + j)) hA hD 136
  have HP : Hid (RetT Tryz.prog 79 #[.agg (luC 25 (absN (blkN ps k) (fun j => byN ps (136 * k + j)) 136))] (.agg (luC 25 (blkN ps (k + 1))))) := hid (HPER.out _ hAB)
  have hwle : w.heap.size ≤ W.heap.size := hst.Q.size
  have HST := hid hst
  clear hJ0 kb kc hst hkN HPER HLT HBY Hog2 HNs
  gi_wp2_with fail
  refine (callsIn_free (free_round l) (HABS.out w.heap.size g (136 * k) _ _ hA hD hgA W HST.out.A hcell)).mono ?_
  rintro e w1 ⟨⟨v1, rfl⟩, L1, G1⟩
  have S1 : SuSt w g b (b + 1) (136 * N) cap og (absN (blkN ps k) (fun j => byN ps (136 * k + j)) 136) w1 := ⟨L1, (G1.block g (Array.getElem?_eq_some_iff.1 HST.out.G).1 (fun e => hgA (Option.some.inj e))).trans HST.out.G, HST.out.B.kept G1 (fun e => by have := Option.some.inj e; omega), HST.out.C.kept G1 (fun e => by have := Option.some.inj e; omega), HST.out.T.kept G1 hw0, below_of_grown HST.out.Q G1 (Nat.le_refl _)⟩
  have hKF1 := KeepsFrom.of_grownBy (B := W0.heap.size) G1 (fun j e => by have := Option.some.inj e; omega)
  have hKA1 : KeepsAt [b, b + 1] W w1 := fun x hx => G1.block x (by simp at hx; have h1 := HST.out.B.lt; have h2 := HST.out.C.lt; omega) (fun e => by have := Option.some.inj e; simp at hx; omega)
  clear hcell hA hD hAB HABS
  generalize absN (blkN ps k) (fun j => byN ps (136 * k + j)) 136 = AB at *
  have HEQ : Hid (blkN ps (k + 1) = blkN ps (k + 1)) := hid rfl
  obtain ⟨A2, hA2⟩ : ∃ A2, blkN ps (k + 1) = A2 := ⟨_, rfl⟩
  rw [hA2] at HP
  have HE := hid hA2
  clear hA2 HEQ
  have HL1 := hid (load25 S1.A)
  have HS1 := hid S1
  have HKF1 := hid hKF1
  have HKA1 := hid hKA1
  clear L1 G1 S1 hKF1 hKA1
  gi_wp2_with (refine wpListIn_loadB (free_round l) rfl _ _ rfl w.heap.size rfl _ HL1.out ?_)
  clear HL1
  refine (callsIn_free (free_round l) (HP.out _ HS1.out.T)).mono ?_
  rintro e w2 ⟨rfl, q⟩
  have HA2 := hid (HS1.out.A.later q)
  have HI2 := hid (infoL A2)
  have HO2 := hid (one_luC 25 A2)
  have hgA2 : g ≠ w.heap.size := hgA
  have hbA : b ≠ w.heap.size := by omega
  have hcA : b + 1 ≠ w.heap.size := by omega
  have HS3 : Hid (SuSt w g b (b + 1) (136 * N) cap og A2 (w2.setRow w.heap.size (luC 25 A2))) := hid
   ⟨(HS1.out.A.later q).rowK, (setRow_other hgA).trans ((q.block g (Array.getElem?_eq_some_iff.1 HS1.out.G).1).trans HS1.out.G), (setRow_other hbA).trans (HS1.out.B.later q), (setRow_other hcA).trans (HS1.out.C.later q), (HS1.out.T.later q).row hw0 _, below_row (HS1.out.Q.trans (q.mono HS1.out.Q.size)) (Nat.le_refl _) _⟩
  have HKF3 := hid ((HKF1.out.trans (keepsFrom_below q)).trans (keepsFrom_row w2 haW (luC 25 A2)))
  have HKA3 : Hid (KeepsAt [b, b + 1] W (w2.setRow w.heap.size (luC 25 A2))) := hid (fun x hx => (setRow_other (by simp at hx; omega)).trans ((q.block x (by simp at hx; have h1 := HS1.out.B.lt; have h2 := HS1.out.C.lt; omega)).trans (HKA1.out x hx)))
  clear q
  gi_wp2_with (refine wpListIn_storeB (free_round l) rfl _ _ _ rfl w.heap.size (luC 25 A2) rfl rfl _ _ HA2.out HI2.out (by rw [luC_size, luC_size]) HO2.out ?_)
  exact ⟨HKF3.out, HKA3.out, by show SuSt w g b (b + 1) (136 * N) cap og (blkN ps (k + 1)) _; rw [HE.out]; exact HS3.out⟩
 case done =>
  rintro D W hD hst hK
  have HK := hid hK
  have HST := hid hst
  clear hst hK hJ0 kb kc
  gi_wp2_with fail
  refine (callsIn_free free_wide (HSQ.out w.heap.size (blkN ps N) W HST.out.A)).mono ?_
  rintro e w2 ⟨rfl, q⟩
  have hK2 : w2.heap[D]? = some (.deferred (some [])) := (q.block D (Array.getElem?_eq_some_iff.1 HK.out).1).trans HK.out
  have Q2 := HST.out.Q.trans (q.mono HST.out.Q.size)
  have HQ2 := hid (Q2.trans (belowK_b (w := w) (Nat.le_refl _) _ D _ (.deferred none) (by have := HST.out.A.lt; omega) hK2 rfl rfl))
  have HK2 := hid hK2
  clear q hK2 Q2
  generalize sqS (blkN ps N) = out at *
  gi_wp2
  refine ⟨by simp, .inl ⟨_, _, rfl, run_takeDeferred HK2.out, ?_⟩⟩
  exact ⟨.tuple #[.string out, .int .i64 0], by simp [results, Tryz.f48, go_sem], by rw [HF.out], HQ2.out⟩
 case stop =>
  rintro D c k W _ _ h _
  exact h.elim
end
section
open Go Go.RowKit Go.Shelf
theorem padS_list (s : ByteArray) : (padS s).data.toList = s.data.toList ++ pcL (pmN s) := by
 unfold padS
 rw [ByteArray.data_append, Array.toList_append]
theorem byN_list (p : ByteArray) (i : Nat) : byN p i = (p.data.toList.getD i 0).toNat := by
 unfold byN
 rw [Array.getD_eq_getD_getElem?, List.getD_eq_getElem?_getD, Array.getElem?_toList]
theorem byN_pad (s : ByteArray) (i : Nat) : byN (padS s) i = ((s.data.toList ++ pcL (pmN s)).getD i 0).toNat := by rw [byN_list, padS_list]
theorem ofL_l25 (A : Nat → Nat) (j : Nat) (hj : j < 25) : (l25 A).getD j 0 = A j := by
 unfold l25
 rw [List.getD_eq_getElem?_getD, List.getElem?_map, List.getElem?_range hj]
 rfl
theorem one_block (s : ByteArray) (j : Nat) (hj : j < 25) : blkN (padS s) 1 j = (permL (l25 (absN (fun _ => 0) (fun i => ((s.data.toList ++ pcL (pmN s)).getD i 0).toNat) 136))).getD j 0 := by
 rw [permL_eq, ofL_l25 _ j hj]
 show permN (absN (fun _ => 0) (fun i => byN (padS s) (136 * 0 + i)) 136) j = _
 have e : (fun i => byN (padS s) (136 * 0 + i)) = fun i => ((s.data.toList ++ pcL (pmN s)).getD i 0).toNat := funext fun i => by rw [Nat.mul_zero, Nat.zero_add, byN_pad]
 exact congrFun (congrArg (fun D => permN (absN (fun _ => 0) D 136)) e) j
theorem sqS_size (A : Nat → Nat) : (sqS A).size = 32 := by
 show ((List.range 32).map fun j => UInt8.ofNat (sqB A j)).toArray.size = 32
 simp
theorem sqS_head (A : Nat → Nat) : (sqS A).extract 0 6 = ⟨#[UInt8.ofNat (A 0 % 256), UInt8.ofNat (A 0 / 2 ^ 8 % 256), UInt8.ofNat (A 0 / 2 ^ 16 % 256), UInt8.ofNat (A 0 / 2 ^ 24 % 256), UInt8.ofNat (A 0 / 2 ^ 32 % 256), UInt8.ofNat (A 0 / 2 ^ 40 % 256)]⟩ := by
 apply ByteArray.ext
 rw [ByteArray.data_extract]
 unfold sqS sqB
 simp [List.range_succ]
theorem sumS_size (s : ByteArray) : (sumS s).size = 32 := sqS_size _
end
section
open Go Go.RowKit
attribute [local go_sem] Oper.semAt_some Grows wide_fn
def txtI (b : ByteArray) : It := .mk false b []
def numI (a : Nat) : It := txtI ⟨(digs a).toArray⟩
def slotI (x : Sl) : It := .mk true ⟨#[]⟩ [numI x.1, numI x.2]
theorem txtS {y : World} {S : Nat → Prop} (b : ByteArray) (hb : b.size ≤ 140737488355328) : ItemS y S (txtI b) (.agg #[.bool false, .string b, .slice none 0 0]) :=
 ItemS.mk' (t := .mk false b []) (a := none) (cap := 0) (by simp [It.kids]) hb (.inl rfl)
theorem digs_size (a : Nat) (ha : W256 a) : (⟨(digs a).toArray⟩ : ByteArray).size ≤ 140737488355328 := by
 have : (digs a).length ≤ 32 := digs_length (by unfold W256 at ha; exact Nat.lt_of_lt_of_le ha (by decide))
 show (digs a).toArray.size ≤ _
 rw [List.size_toArray]; omega
def MadeI (t : It) (w : World) (e : Ending) (w' : World) : Prop := ∃ v, e = .returned v ∧ ItemS w' (fun b => w.heap.size ≤ b) t v ∧ Below w.heap.size w w'
theorem slotItem_any (x : Sl) (hx : W256 x.1 ∧ W256 x.2) (w : World) : Calls Tryz.prog 75 #[slV x] w (MadeI (slotI x) w) := by
 have hmx : Tryz.prog.follows .mixedOrders = true := by kernel_rfl
 have hN1 := number_ret x.1 hx.1
 have hN2 := number_ret x.2 hx.2
 have hd1 := hid (digs_size x.1 hx.1)
 have hd2 := hid (digs_size x.2 hx.2)
 have hGoal : ∀ (d1 d2 : ByteArray), (⟨(digs x.1).toArray⟩ : ByteArray) = d1 → (⟨(digs x.2).toArray⟩ : ByteArray) = d2 → slotI x = .mk true ⟨#[]⟩ [txtI d1, txtI d2] := fun d1 d2 h1 h2 => by rw [← h1, ← h2]; rfl
 unfold wv txtV strV at hN1 hN2
 unfold slV
 obtain ⟨d1, e1⟩ : ∃ d1, (⟨(digs x.1).toArray⟩ : ByteArray) = d1 := ⟨_, rfl⟩
 obtain ⟨d2, e2⟩ : ∃ d2, (⟨(digs x.2).toArray⟩ : ByteArray) = d2 := ⟨_, rfl⟩
 rw [hGoal d1 d2 e1 e2]
 clear hGoal
 rw [e1] at hN1 hd1
 rw [e2] at hN2 hd2
 clear e1 e2
 generalize lim x.1 0 = a0 at *
 generalize lim x.1 1 = a1 at *
 generalize lim x.1 2 = a2 at *
 generalize lim x.1 3 = a3 at *
 generalize lim x.2 0 = a4 at *
 generalize lim x.2 1 = a5 at *
 generalize lim x.2 2 = a6 at *
 generalize lim x.2 3 = a7 at *
 have HN1 := hid hN1
 have HN2 := hid hN2
 clear hN1 hN2 hx
 have LX := (Has.new w 63 #[.int .u64 a0, .int .u64 a1, .int .u64 a2, .int .u64 a3, .int .u64 a4, .int .u64 a5, .int .u64 a6, .int .u64 a7]).alloc (.cells #[.bool false, .string ⟨#[]⟩, .slice none 0 0] 78)
 have LR := Has.new (w.alloc (.cells #[.int .u64 a0, .int .u64 a1, .int .u64 a2, .int .u64 a3, .int .u64 a4, .int .u64 a5, .int .u64 a6, .int .u64 a7] 63)) 78 #[.bool false, .string ⟨#[]⟩, .slice none 0 0]
 simp only [World.size_alloc] at LR
 have Q := (newA w (.cells #[.int .u64 a0, .int .u64 a1, .int .u64 a2, .int .u64 a3, .int .u64 a4, .int .u64 a5, .int .u64 a6, .int .u64 a7] 63)).alloc (by simp) (.cells #[.bool false, .string ⟨#[]⟩, .slice none 0 0] 78)
 obtain ⟨W0, hW0⟩ : ∃ W0, (w.alloc (.cells #[.int .u64 a0, .int .u64 a1, .int .u64 a2, .int .u64 a3, .int .u64 a4, .int .u64 a5, .int .u64 a6, .int .u64 a7] 63)).alloc (.cells #[.bool false, .string ⟨#[]⟩, .slice none 0 0] 78) = W0 := ⟨_, rfl⟩
 rw [hW0] at LX LR Q
 have k0 : ∀ X : Ext W0, X.w.cell? ⟨w.heap.size, 0, none⟩ = some (.int .u64 a0) := fun X => (LX.later X.below).cell 0 _ rfl
 have k1 : ∀ X : Ext W0, X.w.cell? ⟨w.heap.size, 1, none⟩ = some (.int .u64 a1) := fun X => (LX.later X.below).cell 1 _ rfl
 have k2 : ∀ X : Ext W0, X.w.cell? ⟨w.heap.size, 2, none⟩ = some (.int .u64 a2) := fun X => (LX.later X.below).cell 2 _ rfl
 have k3 : ∀ X : Ext W0, X.w.cell? ⟨w.heap.size, 3, none⟩ = some (.int .u64 a3) := fun X => (LX.later X.below).cell 3 _ rfl
 have k4 : ∀ X : Ext W0, X.w.cell? ⟨w.heap.size, 4, none⟩ = some (.int .u64 a4) := fun X => (LX.later X.below).cell 4 _ rfl
 have k5 : ∀ X : Ext W0, X.w.cell? ⟨w.heap.size, 5, none⟩ = some (.int .u64 a5) := fun X => (LX.later X.below).cell 5 _ rfl
 have k6 : ∀ X : Ext W0, X.w.cell? ⟨w.heap.size, 6, none⟩ = some (.int .u64 a6) := fun X => (LX.later X.below).cell 6 _ rfl
 have k7 : ∀ X : Ext W0, X.w.cell? ⟨w.heap.size, 7, none⟩ = some (.int .u64 a7) := fun X => (LX.later X.below).cell 7 _ rfl
 replace LX := hid LX
 replace LR := hid LR
 replace Q := hid Q
 go_enter Tryz.func75, Tryz.ntmps75
 go_wp2_with fail
 try rw [hW0]
 clear hW0
 refine wp_region_mix (C := Grows W0) [some true, some true, some true, some true, some true, some true, none, none, none] hmx (by kernel_rfl) (by kernel_rfl) (grows_refl W0) ?_
 simp only [headOf, tailOf]
 repeat (go_big_quiet_step (first | (with_reducible exact Ret.at HN1.out _) | (with_reducible exact Ret.at HN2.out _)))
 refine wpQuiet_nil ?_
 rintro _ ⟨X, rfl⟩
 clear k0 k1 k2 k3 k4 k5 k6 k7 LX
 have HR := hid (LR.out.later X.below)
 have HQ := hid (Q.out.trans (X.below.mono Q.out.size))
 obtain ⟨Z, hZ⟩ : ∃ Z, X.w = Z := ⟨_, rfl⟩
 rw [hZ] at HR HQ
 obtain ⟨Z3, hZ3, N3, q3⟩ := newBox Z 78 #[.bool false, .string d1, .slice none 0 0, .bool false, .string d2, .slice none 0 0]
 have hL0 := list_any [txtI d1, txtI d2] (some ⟨Z.heap.size, 0, none⟩) 2 Z3 (KidsInS.at (S := fun _ => True) (.inr ⟨_, _, rfl, trivial, ⟨_, _, _, N3.cell 0 _ rfl, N3.cell 1 _ rfl, N3.cell 2 _ rfl, txtS d1 hd1.out⟩, ⟨_, _, _, N3.cell 3 _ rfl, N3.cell 4 _ rfl, N3.cell 5 _ rfl, txtS d2 hd2.out⟩, trivial⟩)) (by simp)
 simp only [List.length_cons, List.length_nil, Nat.reduceAdd] at hL0
 have HL := hid hL0
 clear hL0
 have HR3 := hid (HR.out.later q3)
 have HQ3 := hid (HQ.out.trans (q3.mono HQ.out.size))
 clear N3 q3 HR HQ LR Q HN1 HN2
 rw [hZ]
 clear hZ
 go_wp2_with fail
 try rw [hZ3]
 refine HL.out.mono ?_
 rintro _ W5 ⟨a5', c5, rfl, hI, q5⟩
 have h6 := HR3.out.later q5
 have c60 := h6.cell 0 _ rfl
 have c61 := h6.cell 1 _ rfl
 have c62 := h6.cell 2 _ rfl
 have f60 := h6.frozen 0
 have f61 := h6.frozen 1
 have f62 := h6.frozen 2
 have h7 := ((h6.set 0 (.bool true)).set 1 (.string ⟨#[]⟩)).set 2 (.slice a5' 2 c5)
 have hq7 := HQ3.out.trans (q5.mono HQ3.out.size)
 have hQ7 := hid (((hq7.setCell (p := ⟨w.heap.size + 1, 0, none⟩) (by simp) (.bool true)).setCell (p := ⟨w.heap.size + 1, 1, none⟩) (by simp) (.string ⟨#[]⟩)).setCell (p := ⟨w.heap.size + 1, 2, none⟩) (by simp) (.slice a5' 2 c5))
 have hI7 := hid (hI.keep (X := ((W5.setCell ⟨w.heap.size + 1, 0, none⟩ (.bool true)).setCell ⟨w.heap.size + 1, 1, none⟩ (.string ⟨#[]⟩)).setCell ⟨w.heap.size + 1, 2, none⟩ (.slice a5' 2 c5)) (T := fun b => w.heap.size ≤ b) (fun b hb _ => by
  have hne : b ≠ w.heap.size + 1 := by have := HR3.out.lt; omega
  exact (Below.heap_setCell _ _ _ b hne).trans ((Below.heap_setCell _ _ _ b hne).trans (Below.heap_setCell _ _ _ b hne))) (fun b hb _ => by have := HQ3.out.size; omega))
 have H7 := hid h7
 clear h7 hq7 hI h6 q5 HL
 simp only [List.length_cons, List.length_nil, Nat.reduceAdd] at H7 hQ7 hI7 ⊢
 go_wp2_with fail
 rw [calmPost_normal]
 go_wp2_with fail
 have y0 := H7.out.cell 0 _ rfl
 have y1 := H7.out.cell 1 _ rfl
 have y2 := H7.out.cell 2 _ rfl
 exact bodyPost_ret (v := .agg #[.bool true, .string ⟨#[]⟩, .slice a5' 2 c5]) (by simp [results, Tryz.results75, go_sem, y0, y1, y2]) rfl ⟨_, rfl, hI7.out, hQ7.out⟩
def KpB (n0 : Nat) (L : List Nat) (A X : World) : Prop := Below n0 A X ∧ KeepsAt L A X
def SjB (A X : World) : Prop := Below A.heap.size A X
def EItem {α : Type} (item : α → It) (l : List α) (k : Nat) (args : Array Value) (A W : World) : Prop := ∃ x v, l[k]? = some x ∧ args = #[v] ∧ ItemS W (fun b => A.heap.size ≤ b) (item x) v
theorem KpB.trans {n0 : Nat} {L : List Nat} {A B C : World} (h : KpB n0 L A B) (k : KpB n0 L B C) : KpB n0 L A C := ⟨h.1.trans k.1, h.2.trans k.2⟩
theorem KpB.b {n0 : Nat} {L : List Nat} {w : World} (hn : n0 ≤ w.heap.size) (hL : ∀ b, b ∈ L → b < w.heap.size) (W : World) (l : Nat) (o o' : Obj) (hl : w.heap.size ≤ l) (h1 : W.heap[l]? = some o) (h2 : o.isCells = false) (h3 : o.isWalk = false) : KpB n0 L W (W.putObj l o') :=
 ⟨⟨rfl, rfl, rfl, by simp, fun k hk => World.putObj_heap_other (by omega)⟩, KeepsAt.b hL W l o o' hl h1 h2 h3⟩
theorem Has.injZ {W : World} {B : Nat} {t u : TypeId} {cs ds : Array Value} (h : Has W B t cs) (k : Has W B u ds) : cs = ds := by
 unfold Has at h k
 rw [h] at k
 injection k with k
 injection k with k _ _
def LsSt {α : Type} (item : α → It) (l : List α) (w : World) (Br Bk base k : Nat) (W : World) : Prop :=
 ∃ sv, Has W Br 78 #[.bool false, .string ⟨#[]⟩, .slice none 0 0] ∧ Has W Bk 76 #[sv] ∧ RowK W base sv ((l.take k).map item) ∧ Below w.heap.size w W ∧ base ≤ W.heap.size
theorem LsSt.own {α : Type} {item : α → It} {l : List α} {w : World} {Br Bk base n : Nat} (hn : w.heap.size ≤ n) : OwnFrom n (fun k W => LsSt item l w Br Bk base k W) := fun k A X row hs hg hr => by
 obtain ⟨sv, h1, h2, h3, h4, h5⟩ := hs
 exact ⟨sv, h1.ownR hg (fun r e => (hr r e).2), h2.ownR hg (fun r e => (hr r e).2), h3.keep (fun b o _ ho hc => keeps_own hg (fun r e => (hr r e).2) b o ho hc), below_ownR h4 hg hn (fun r e => (hr r e).1), Nat.le_trans h5 hg.size⟩
theorem LsSt.sj {α : Type} {item : α → It} {l : List α} {w A X : World} {Br Bk base k : Nat} (hs : LsSt item l w Br Bk base k A) (h : SjB A X) : LsSt item l w Br Bk base k X := by
 obtain ⟨sv, h1, h2, h3, h4, h5⟩ := hs
 exact ⟨sv, h1.later h, h2.later h, h3.later h, h4.trans (Below.mono h h4.size), Nat.le_trans h5 h.size⟩
def SeqZ (N : Nat) (J Jx : Nat → World → Prop) (e : Ending) (W' : World) : Prop := (∃ v, e = .returned v) ∧ ((J N W' ∧ True) ∨ ∃ k, k < N ∧ Jx k W')
theorem sitems_seq (n : Nat) (a : Option Addr) (cap N : Nat) (l : List Sl) (hN : l.length = N) (b1 b2 : Nat) (w0 w : World) (hs : SlotsAt w0 (.slice a N cap) l) (hlen : N ≤ 1000000) (hb : Below w0.heap.size w0 w)
  (h1 : Has w b1 29 #[.slice a N cap]) (h2 : Has w b2 110 #[.func (.func 75) #[] #[]]) :
  SeqD Fence.wide n Tryz.prog 129 #[.pointer (some ⟨b1, 0, none⟩), .pointer (some ⟨b2, 0, none⟩)] (EItem slotI l) (KpB w0.heap.size [b1, b2]) SjB (fun _ => True) N w := by
 intro ll J Jx W hW hJA hJxA hY h0
 have hmx : Tryz.prog.follows .mixedOrders = true := by kernel_rfl
 have HY := hid (fun k args A W1 hk hJ hS hE => yieldAt_anyR (m := 7) (hY k args A W1 hk hJ hS hE))
 have HS := hid hs
 have HN := hid (And.intro hN hlen)
 have g1 := h1.below hW h1.lt
 have g2 := h2.below hW h2.lt
 have hB := hb.trans (hW.mono hb.size)
 have hst0 := hid (show ∃ k : Nat, k ≤ N ∧ Value.int IntKind.i64 0 = .int .i64 (k : Int) ∧ J k W ∧ Below w0.heap.size w0 W ∧ Has W b1 29 #[.slice a N cap] ∧ Has W b2 110 #[.func (.func 75) #[] #[]] from ⟨0, Nat.zero_le _, rfl, h0, hB, g1, g2⟩)
 have c0 := g1.cell 0 _ rfl
 clear hY hJA hJxA h0 hs hN hlen h1 h2 hW hb g1 g2 hB
 show CallsIn _ _ _ _ _ _ (SeqZ N J Jx)
 have hfin := hid (show ∀ (X : World) k, k < N → Jx k X → SeqZ N J Jx (.returned (.tuple #[])) X from fun X k h1 h2 => ⟨⟨_, rfl⟩, .inr ⟨k, h1, h2⟩⟩)
 have hend := hid (show ∀ (X : World), J N X → SeqZ N J Jx (.returned (.tuple #[])) X from fun X h1 => ⟨⟨_, rfl⟩, .inl ⟨h1, trivial⟩⟩)
 refine callsIn_free free_wide ((callsIn_wide (n := 8)).1 ?_)
 refine callsIn_of_wp Tryz.func129 rfl trivial ?_ rfl
 simp only [Tryz.ntmps129, List.size_toArray, List.length_cons, List.length_nil, Nat.reduceAdd, Nat.reduceSub, Array.replicate_succ, Array.replicate_zero, List.push_toArray, List.append_toArray, List.nil_append, List.cons_append]
 gi_wp2_with fail
 gi_loopw [8] (fun i wr => ∃ k : Nat, k ≤ N ∧ i = .int .i64 (k : Int) ∧ J k wr ∧ Below w0.heap.size w0 wr ∧ Has wr b1 29 #[.slice a N cap] ∧ Has wr b2 110 #[.func (.func 75) #[] #[]]) (fun i _ => N - (intOf i).toNat)
 case atStart => exact hst0.out
 case round =>
  clear hst0 c0
  obtain ⟨k, hk, rfl, hJ, hB, g1, g2⟩ := hrel
  have HJ := hid hJ
  have HB := hid hB
  by_cases hkn : k < N
  ·have hknI : (k : Int) < (N : Int) := by omega
   have hk0 : (0 : Int) ≤ (k : Int) := by omega
   have hkb : (k : Int) ≤ 9223372036854775806 := by have := HN.out.2; omega
   obtain ⟨x, hx⟩ : ∃ x, l[k]? = some x := ⟨_, List.getElem?_eq_getElem (by have := HN.out.1; omega)⟩
   have hsr : SlotsAt wr (.slice a N cap) l := HS.out.later HB.out
   obtain ⟨b, rfl, q0, q1, q2, q3, q4, q5, q6, q7⟩ := hsr.at hx
   have NZ := Has.new wr 63 #[.int .u64 0, .int .u64 0, .int .u64 0, .int .u64 0, .int .u64 0, .int .u64 0, .int .u64 0, .int .u64 0]
   have y0 := NZ.cell 0 _ rfl
   have y1 := NZ.cell 1 _ rfl
   have y2 := NZ.cell 2 _ rfl
   have y3 := NZ.cell 3 _ rfl
   have y4 := NZ.cell 4 _ rfl
   have y5 := NZ.cell 5 _ rfl
   have y6 := NZ.cell 6 _ rfl
   have y7 := NZ.cell 7 _ rfl
   have z0 := NZ.frozen 0
   have z1 := NZ.frozen 1
   have z2 := NZ.frozen 2
   have z3 := NZ.frozen 3
   have z4 := NZ.frozen 4
   have z5 := NZ.frozen 5
   have z6 := NZ.frozen 6
   have z7 := NZ.frozen 7
   have HW := hid (hsr.wide hx)
   have HIT := hid (slotItem_any x (hsr.wide hx))
   unfold slV at HIT
   replace NZ := hid NZ
   have q := newA wr (.cells #[.int .u64 (lim x.1 0), .int .u64 (lim x.1 1), .int .u64 (lim x.1 2), .int .u64 (lim x.1 3), .int .u64 (lim x.2 0), .int .u64 (lim x.2 1), .int .u64 (lim x.2 2), .int .u64 (lim x.2 3)] 63)
   have NB := Has.new wr 63 #[.int .u64 (lim x.1 0), .int .u64 (lim x.1 1), .int .u64 (lim x.1 2), .int .u64 (lim x.1 3), .int .u64 (lim x.2 0), .int .u64 (lim x.2 1), .int .u64 (lim x.2 2), .int .u64 (lim x.2 3)]
   have HX := hid (And.intro hx hkn)
   obtain ⟨W3, hW3⟩ : ∃ W3, wr.alloc (.cells #[.int .u64 (lim x.1 0), .int .u64 (lim x.1 1), .int .u64 (lim x.1 2), .int .u64 (lim x.1 3), .int .u64 (lim x.2 0), .int .u64 (lim x.2 1), .int .u64 (lim x.2 2), .int .u64 (lim x.2 3)] 63) = W3 := ⟨_, rfl⟩
   rw [hW3] at NB q
   have n0 := NB.cell 0 _ rfl
   have n1 := NB.cell 1 _ rfl
   have n2 := NB.cell 2 _ rfl
   have n3 := NB.cell 3 _ rfl
   have n4 := NB.cell 4 _ rfl
   have n5 := NB.cell 5 _ rfl
   have n6 := NB.cell 6 _ rfl
   have n7 := NB.cell 7 _ rfl
   have d2 := (g2.later q).cell 0 _ rfl
   have HQ := hid q
   have G1 := hid (g1.later q)
   have G2 := hid (g2.later q)
   clear hx hkn hk hsr NB q g1 g2 hJ hB
   gi_wp2_with fail
   refine (callsIn_free free_wide (HIT.out W3)).mono ?_
   rintro _ W5 ⟨v, rfl, hI, q5⟩
   have G15 := hid (G1.out.later q5)
   have G25 := hid (G2.out.later q5)
   have qq := HQ.out.trans (q5.mono HQ.out.size)
   have hB5 := hid (HB.out.trans (qq.mono HB.out.size))
   obtain ⟨fn, tmps, assign, body, hy, hRd⟩ := HY.out k #[v] wr W5 HX.out.2 HJ.out qq ⟨x, v, HX.out.1, rfl, hI.mono (fun b hb _ => Nat.le_trans HQ.out.size hb)⟩
   clear q0 q1 q2 q3 q4 q5 q6 q7 y0 y1 y2 y3 y4 y5 y6 y7 z0 z1 z2 z3 z4 z5 z6 z7 n0 n1 n2 n3 n4 n5 n6 n7 d2 hW3 HIT NZ G1 G2 qq hI
   gi_wp2_with fail
   refine (roundIn_anyR hRd).mono ?_
   rintro e3 W6 (⟨rfl, hJ6, hk6⟩ | ⟨rfl, hJx6⟩)
   ·have hst := hid (show J (k + 1) W6 ∧ Below w0.heap.size w0 W6 ∧ Has W6 b1 29 #[.slice (some b) N cap] ∧ Has W6 b2 110 #[.func (.func 75) #[] #[]] from ⟨hJ6, hB5.out.trans hk6.1, (hk6.2 _ (by simp)).trans G15.out, (hk6.2 _ (by simp)).trans G25.out⟩)
    clear hy hRd hk6 hJ6
    gi_wp2_with fail
    go_roundw
    case rel => exact ⟨k + 1, by have := HX.out; omega, by simp, hst.out⟩
    case measure => have := HX.out; simp [intOf]; omega
   ·have hE := hid (hfin.out _ _ HX.out.2 hJx6)
    clear hy hRd hJx6
    gi_wp2_with fail
    refine bodyPost_ret (results_none rfl _ _ _) rfl ?_
    exact hE.out
  ·obtain rfl : k = N := by omega
   have hknI : ¬ (k : Int) < (k : Int) := by omega
   clear g1 g2 hJ hB
   gi_wp2_with fail
   first | go_end0 | skip
   exact hend.out _ HJ.out
end
end Go.Proofs.YtkicmbdjihjgfaaGreatDoor
