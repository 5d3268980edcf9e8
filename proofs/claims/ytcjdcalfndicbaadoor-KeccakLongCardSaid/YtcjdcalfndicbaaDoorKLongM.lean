/- Hashes of noughts, reckoned: those of lengths that follow one another are unlike. -/
import Derived.Test.YtcjdcalfndicbaaDoorKecR
namespace Go.Proofs.YtcjdcalfndicbaaDoor
open Go Go.RowKit Go.Shelf

/-- The bytes of the last block of a text of noughts that has r bytes in it. -/
def dz (r i : Nat) : Nat := if i < r then 0 else pcN (135 - r) (i - r)
def absD (l : List Nat) (r : Nat) : List Nat := (List.range 25).map fun j => if j < 17 then xr (fun i => l.getD i 0) (dz r) j 8 else l.getD j 0
theorem by_zero (k i : Nat) (h : i < k) : byN (padS (zS k)) i = 0 := by
  rw [byN_list, padS_list, zS_list, List.getD_eq_getElem?_getD, List.getElem?_append_left (by simpa using h)]
  simp [h]
theorem by_last (k i : Nat) (h : i < 136) : byN (padS (zS k)) (136 * (k / 136) + i) = dz (k % 136) i := by
  unfold dz
  split
  · exact by_zero k _ (by omega)
  · rename_i hr
    have hj : i - k % 136 < pmN (zS k) + 1 := by unfold pmN; rw [zS_size]; omega
    rw [byN_list, padS_list, zS_list, List.getD_eq_getElem?_getD, List.getElem?_append_right (by simp; omega)]
    have e : 136 * (k / 136) + i - (List.replicate k (0 : UInt8)).length = i - k % 136 := by simp; omega
    rw [e]
    have hpm : pmN (zS k) = 135 - k % 136 := by unfold pmN; rw [zS_size]
    simp only [pcL, List.getElem?_map, List.getElem?_range hj, Option.map_some, Option.getD_some]
    rw [UInt8.toNat_ofNat', Nat.mod_eq_of_lt (show pcN _ _ < 2 ^ 8 from pcN_lt _ _), hpm]
def zF : Nat → Nat → Nat
  | 0 => fun _ => 0
  | m + 1 => permN (zF m)
theorem blk_zero (k : Nat) : ∀ m, m ≤ k / 136 → blkN (padS (zS k)) m = zF m
  | 0, _ => rfl
  | m + 1, h => by
    show permN (absN (blkN (padS (zS k)) m) (fun j => byN (padS (zS k)) (136 * m + j)) 136) = permN (zF m)
    rw [absN_zero _ _ (fun i hi => by_zero k _ (by omega)), blk_zero k m (by omega)]
theorem lane_zero (k : Nat) (l : List Nat) (hl : l = l25 (zF (k / 136))) : blkN (padS (zS k)) (k / 136 + 1) 0 = (permL (absD l (k % 136))).getD 0 0 := by
  have e : absD l (k % 136) = l25 (absN (zF (k / 136)) (fun j => byN (padS (zS k)) (136 * (k / 136) + j)) 136) := by
    unfold absD l25
    refine List.map_congr_left (fun j hj => ?_)
    have hj25 := List.mem_range.1 hj
    have hg : l.getD j 0 = zF (k / 136) j := by rw [hl, ofL_l25 _ j hj25]
    rw [absN_all]
    split
    · rename_i h17
      exact xr_congr _ _ _ _ j hg h17 (fun i hi => (by_last k i hi).symm) 8 (Nat.le_refl _)
    · exact hg
  rw [e, permL_eq, ofL_l25 _ 0 (by omega), ← blk_zero k (k / 136) (Nat.le_refl _)]
  rfl
def z0L : List Nat := List.replicate 25 0
def z1L : List Nat := [17376452488221285863, 9571781953733019530, 15391093639620504046, 13624874521033984333, 10027350355371872343, 18417369716475457492, 10448040663659726788, 10113917136857017974, 12479658147685402012, 3500241080921619556, 16959053435453822517, 12224711289652453635, 9342009439668884831, 4879704952849025062, 140226327413610143, 424854978622500449, 7259519967065370866, 7004910057750291985, 13293599522548616907, 10105770293752443592, 10668034807192757780, 1747952066141424100, 1654286879329379778, 8500057116360352059, 16929593379567477321]
def z2L : List Nat := [3268651591693945660, 7652509465582220653, 665843430262795116, 9953194536449200276, 5736547547768942934, 17967033347517840184, 9617223347116289805, 18083344793841701111, 2241559954380719961, 16500850453531636773, 7552081062576154785, 16062764016099891023, 3730174026076631541, 16142682291168730073, 9005134303344136805, 18254296170158835523, 10943093107769035584, 5254247195150641012, 16409086168290275388, 10493424989303096041, 10380288247186775419, 2317839531386326248, 6571880257221836214, 6962369734508286041, 2364509455356247900]
theorem z0_eq : z0L = l25 (zF 0) := rfl
set_option maxRecDepth 100000 in
theorem z1_eq : z1L = l25 (zF 1) := by
  show z1L = l25 (permN (zF 0))
  rw [← permL_eq, ← z0_eq]
  exact of_decide_eq_true (by decide +kernel)
set_option maxRecDepth 100000 in
theorem z2_eq : z2L = l25 (zF 2) := by
  show z2L = l25 (permN (zF 1))
  rw [← permL_eq, ← z1_eq]
  exact of_decide_eq_true (by decide +kernel)
/-- The first lane of a hash of k noughts. -/
def hz (k : Nat) : Nat := (permL (absD (if k < 136 then z0L else if k < 272 then z1L else z2L) (k % 136))).getD 0 0
theorem hz_eq (k : Nat) (hk : k < 408) : blkN (padS (zS k)) (k / 136 + 1) 0 = hz k := by
  unfold hz
  refine lane_zero k _ ?_
  by_cases h1 : k < 136
  · rw [if_pos h1, show k / 136 = 0 by omega, z0_eq]
  · rw [if_neg h1]
    by_cases h2 : k < 272
    · rw [if_pos h2, show k / 136 = 1 by omega, z1_eq]
    · rw [if_neg h2, show k / 136 = 2 by omega, z2_eq]
set_option maxRecDepth 100000 in
theorem hx_0 : ((List.range 30).all fun t => !Nat.beq (hz (0 + t)) (hz (0 + t + 1))) = true := by decide +kernel
set_option maxRecDepth 100000 in
theorem hx_1 : ((List.range 30).all fun t => !Nat.beq (hz (30 + t)) (hz (30 + t + 1))) = true := by decide +kernel
set_option maxRecDepth 100000 in
theorem hx_2 : ((List.range 30).all fun t => !Nat.beq (hz (60 + t)) (hz (60 + t + 1))) = true := by decide +kernel
set_option maxRecDepth 100000 in
theorem hx_3 : ((List.range 30).all fun t => !Nat.beq (hz (90 + t)) (hz (90 + t + 1))) = true := by decide +kernel
set_option maxRecDepth 100000 in
theorem hx_4 : ((List.range 30).all fun t => !Nat.beq (hz (120 + t)) (hz (120 + t + 1))) = true := by decide +kernel
set_option maxRecDepth 100000 in
theorem hx_5 : ((List.range 30).all fun t => !Nat.beq (hz (150 + t)) (hz (150 + t + 1))) = true := by decide +kernel
set_option maxRecDepth 100000 in
theorem hx_6 : ((List.range 30).all fun t => !Nat.beq (hz (180 + t)) (hz (180 + t + 1))) = true := by decide +kernel
set_option maxRecDepth 100000 in
theorem hx_7 : ((List.range 30).all fun t => !Nat.beq (hz (210 + t)) (hz (210 + t + 1))) = true := by decide +kernel
set_option maxRecDepth 100000 in
theorem hx_8 : ((List.range 30).all fun t => !Nat.beq (hz (240 + t)) (hz (240 + t + 1))) = true := by decide +kernel
set_option maxRecDepth 100000 in
theorem hx_9 : ((List.range 30).all fun t => !Nat.beq (hz (270 + t)) (hz (270 + t + 1))) = true := by decide +kernel
theorem hz_ne (k : Nat) (hk : k < 300) : hz k ≠ hz (k + 1) := by
  have all : ∀ (b : Nat), ((List.range 30).all fun t => !Nat.beq (hz (b + t)) (hz (b + t + 1))) = true → ∀ t, t < 30 → hz (b + t) ≠ hz (b + t + 1) := fun b h t ht e => by
    have := List.all_eq_true.1 h t (List.mem_range.2 ht)
    rw [e, Nat.beq_refl] at this
    cases this
  have hq : k / 30 < 10 := by omega
  have ek : k = 30 * (k / 30) + k % 30 := by omega
  have ht : k % 30 < 30 := by omega
  rw [ek]
  generalize k % 30 = t at *
  generalize k / 30 = q at *
  match q, hq with
  | 0, _ => exact all 0 hx_0 t ht
  | 1, _ => exact all 30 hx_1 t ht
  | 2, _ => exact all 60 hx_2 t ht
  | 3, _ => exact all 90 hx_3 t ht
  | 4, _ => exact all 120 hx_4 t ht
  | 5, _ => exact all 150 hx_5 t ht
  | 6, _ => exact all 180 hx_6 t ht
  | 7, _ => exact all 210 hx_7 t ht
  | 8, _ => exact all 240 hx_8 t ht
  | 9, _ => exact all 270 hx_9 t ht
theorem sum_ne (k : Nat) (hk : k < 300) : ¬ sumS (zS k) = sumS (zS (k + 1)) := fun h => by
  unfold sumS at h
  rw [zS_size, zS_size] at h
  refine hz_ne k hk ?_
  rw [← hz_eq k (by omega), ← hz_eq (k + 1) (by omega)]
  have hA := blkN_lt (padS (zS k)) (k / 136 + 1) 0
  have hB := blkN_lt (padS (zS (k + 1))) ((k + 1) / 136 + 1) 0
  have hd : ∀ A B : Nat → Nat, sqS A = sqS B → ∀ j, j < 32 → sqB A j = sqB B j := fun A B e j hj => by
    have e1 := congrArg (fun b : ByteArray => b.data.toList[j]?) e
    simp only [sqS, List.getElem?_map, List.getElem?_range hj, Option.map_some] at e1
    have e2 := congrArg UInt8.toNat (Option.some.inj e1)
    rwa [UInt8.toNat_ofNat', UInt8.toNat_ofNat', Nat.mod_eq_of_lt (show sqB A j < 2 ^ 8 from sqB_lt A j), Nat.mod_eq_of_lt (show sqB B j < 2 ^ 8 from sqB_lt B j)] at e2
  have b := hd _ _ h
  have b0 := b 0 (by omega)
  have b1 := b 1 (by omega)
  have b2 := b 2 (by omega)
  have b3 := b 3 (by omega)
  have b4 := b 4 (by omega)
  have b5 := b 5 (by omega)
  have b6 := b 6 (by omega)
  have b7 := b 7 (by omega)
  simp only [sqB, Nat.reduceDiv, Nat.reduceMod, Nat.reduceMul, Nat.reducePow, Nat.zero_div] at b0 b1 b2 b3 b4 b5 b6 b7
  generalize blkN (padS (zS k)) (k / 136 + 1) 0 = p at *
  generalize blkN (padS (zS (k + 1))) ((k + 1) / 136 + 1) 0 = q at *
  clear b h hd
  omega
end Go.Proofs.YtcjdcalfndicbaaDoor
