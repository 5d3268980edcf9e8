/- The reference's rho. -/
import Derived.Test.YtobdjakflknlcaaDoorKRefD
namespace Go.Proofs.YtobdjakflknlcaaDoor
open Go Go.RowKit Go.Shelf
attribute [local go_sem] Oper.semAt_some Grows wide_fn field0

/-- A block of ints, whatever stands behind the first ones. -/
def RowAt (W : World) (g n : Nat) (A : Nat → Nat) : Prop := ∃ cur : Array Value, Has W g 3 cur ∧ ∀ j, j < n → cur[j]? = some (.int .i64 ((A j : Nat) : Int))
theorem RowAt.cellsAt {W : World} {g n : Nat} {A : Nat → Nat} (h : RowAt W g n A) : CellsAt W g n A := fun j hj => by
  obtain ⟨cur, hH, hc⟩ := h
  exact hH.cell j _ (hc j hj)
theorem RowAt.frozen {W : World} {g n : Nat} {A : Nat → Nat} (h : RowAt W g n A) (j : Nat) : W.frozen? ⟨g, j, none⟩ = false := by
  obtain ⟨cur, hH, _⟩ := h
  exact hH.frozen j
theorem RowAt.later {W X : World} {g n : Nat} {A : Nat → Nat} (h : RowAt W g n A) (hb : Below W.heap.size W X) : RowAt X g n A := by
  obtain ⟨cur, hH, hc⟩ := h
  exact ⟨cur, hH.later hb, hc⟩
theorem RowAt.lt {W : World} {g n : Nat} {A : Nat → Nat} (h : RowAt W g n A) : g < W.heap.size := by
  obtain ⟨cur, hH, _⟩ := h
  exact hH.lt
theorem RowAt.alloc {W : World} {g n : Nat} {A : Nat → Nat} (h : RowAt W g n A) (o : Obj) : RowAt (W.alloc o) g n A := h.later ((Below.refl _ W).alloc (Nat.le_refl _) o)
theorem RowAt.kept {W X : World} {row : Option Nat} {g n : Nat} {A : Nat → Nat} (h : RowAt W g n A) (hg : W.grownBy X row) (hne : some g ≠ row) : RowAt X g n A := by
  obtain ⟨cur, hH, hc⟩ := h
  exact ⟨cur, (hg.block g hH.lt hne).trans hH, hc⟩
theorem RowAt.set {W : World} {g n : Nat} {A B : Nat → Nat} (h : RowAt W g n A) (k v : Nat) (hB : ∀ j, j < n → B j = if j = k then v else A j) : RowAt (W.setCell ⟨g, k, none⟩ (.int .i64 ((v : Nat) : Int))) g n B := by
  obtain ⟨cur, hH, hc⟩ := h
  refine ⟨_, hH.set k _, fun j hj => ?_⟩
  rw [hB j hj]
  have hl : j < cur.size := by
    rcases Nat.lt_or_ge j cur.size with h' | h'
    · exact h'
    · have := hc j hj
      rw [Array.getElem?_eq_none h'] at this
      cases this
  by_cases e : j = k
  · subst e
    rw [if_pos rfl, Array.getElem?_setIfInBounds_self_of_lt hl]
  · rw [if_neg e, Array.getElem?_setIfInBounds_ne (fun h => e h.symm)]
    exact hc j hj
theorem RowAt.cut {W : World} {g n m : Nat} {A : Nat → Nat} (h : RowAt W g n A) (hm : m ≤ n) : RowAt W g m A := by
  obtain ⟨cur, hH, hc⟩ := h
  exact ⟨cur, hH, fun j hj => hc j (by omega)⟩
theorem RowAt.congr {W : World} {g n : Nat} {A B : Nat → Nat} (h : RowAt W g n A) (he : ∀ j, j < n → B j = A j) : RowAt W g n B := by
  obtain ⟨cur, hH, hc⟩ := h
  exact ⟨cur, hH, fun j hj => by rw [he j hj]; exact hc j hj⟩
theorem Has.rowAt {W : World} {g n : Nat} {A : Nat → Nat} (h : Has W g 3 (inC n A)) : RowAt W g n A := ⟨_, h, fun j hj => inC_get n A j hj⟩
theorem owns_row {w : World} {base : Nat} {v : Value} {n : Nat} {xs : List Value} (hn : 0 < n) (h : w.ownsRow base 3 1 v n xs) : ∃ g cap, v = .slice (some ⟨g, 0, none⟩) n cap ∧ base ≤ g ∧ n ≤ cap ∧ g < w.heap.size ∧ v.ownBlock = some g ∧
    ∀ A : Nat → Nat, xs = rowI A n → RowAt w g n A := by
  rcases h.2 with ⟨_, h0⟩ | ⟨g, cap, cur, rfl, hb, hg, hnc, _, _, ht⟩
  · omega
  · refine ⟨g, cap, rfl, hb, hnc, (h.lt g rfl).2, rfl, fun A hA => ⟨cur, hg, fun j hj => ?_⟩⟩
    have : xs[j]? = some (.int .i64 ((A j : Nat) : Int)) := by
      rw [hA]
      unfold rowI
      rw [List.getElem?_map, List.getElem?_range hj]
      rfl
    rw [← ht, List.getElem?_take, if_pos (by omega), Array.getElem?_toList] at this
    exact this
theorem cells_news {W : World} {g n : Nat} {A : Nat → Nat} (h : CellsAt W g n A) : ∀ (j : Nat) (u : Value), (rowI A n)[j]? = some u → W.cell? ((⟨g, 0, none⟩ : Addr).add j) = some u := fun j u hj => by
  have hadd : (⟨g, 0, none⟩ : Addr).add j = ⟨g, j, none⟩ := by unfold Addr.add; split <;> simp_all
  have hl : j < n := by
    rcases Nat.lt_or_ge j n with h' | h'
    · exact h'
    · rw [List.getElem?_eq_none (by simp [rowI]; omega)] at hj; cases hj
  unfold rowI at hj
  rw [List.getElem?_map, List.getElem?_range hl] at hj
  rw [hadd, h j hl, ← hj]
  rfl
theorem rowI_one (A : Nat → Nat) (n : Nat) : ∀ u ∈ rowI A n, u.oneCell' = true := by
  intro u hu
  unfold rowI at hu
  obtain ⟨j, _, rfl⟩ := List.mem_map.1 hu
  rfl
theorem rowI_length (A : Nat → Nat) (n : Nat) : (rowI A n).length = n := by simp [rowI]

/-- The reference's rho: so many of its lanes. -/
def rhoK (A : Nat → Nat) : Nat → Nat → Nat
  | 0, j => A j
  | t + 1, j => if j / 64 = wl t then A (64 * wl t + (j % 64 + 64 - (t + 1) * (t + 2) / 2 % 64) % 64) else rhoK A t j
def rhoZ (A : Nat → Nat) (t z j : Nat) : Nat := if j / 64 = wl t ∧ j % 64 < z then A (64 * wl t + (j % 64 + 64 - (t + 1) * (t + 2) / 2 % 64) % 64) else rhoK A t j
theorem rhoZ_zero (A : Nat → Nat) (t j : Nat) : rhoK A t j = rhoZ A t 0 j := by unfold rhoZ; rw [if_neg (by omega)]
theorem rhoZ_all (A : Nat → Nat) (t j : Nat) : rhoK A (t + 1) j = rhoZ A t 64 j := by
  have h : j % 64 < 64 := Nat.mod_lt _ (by omega)
  unfold rhoZ
  show (if j / 64 = wl t then _ else _) = _
  by_cases e : j / 64 = wl t
  · rw [if_pos e, if_pos ⟨e, h⟩]
  · rw [if_neg e, if_neg (fun h => e h.1)]
theorem rhoZ_set (A : Nat → Nat) (t z : Nat) (hz : z < 64) : ∀ j, j < 1600 → rhoZ A t (z + 1) j = if j = 64 * wl t + z then A (64 * wl t + (z + 64 - (t + 1) * (t + 2) / 2 % 64) % 64) else rhoZ A t z j := fun j hj => by
  generalize hr : (t + 1) * (t + 2) / 2 % 64 = r
  unfold rhoZ
  rw [hr]
  by_cases e : j = 64 * wl t + z
  · rw [if_pos e, if_pos ⟨by omega, by omega⟩, show j % 64 = z by omega]
  · rw [if_neg e]
    by_cases h : j / 64 = wl t ∧ j % 64 < z
    · rw [if_pos h, if_pos ⟨h.1, by omega⟩]
    · rw [if_neg h, if_neg (fun h2 => by
        by_cases h3 : j % 64 = z
        · exact e (by omega)
        · exact h ⟨h2.1, by omega⟩)]

set_option maxRecDepth 100000 in
set_option maxHeartbeats 8000000 in
theorem rho_calls (g cap : Nat) (A : Nat → Nat) (w : World) (hA : CellsAt w g 1600 A) :
    Calls Tryd.prog 19 #[.slice (some ⟨g, 0, none⟩) 1600 cap] w fun e w' => ∃ h c, e = .returned (.slice (some ⟨h, 0, none⟩) 1600 c) ∧ w.heap.size ≤ h ∧ RowAt w' h 1600 (rhoK A 24) ∧ Below w.heap.size w w' := by
  have hg := hA.lt (by omega)
  have HA := Lib.hid hA
  have RN := World.ownsRow_nil w w.heap.size 3 1
  have HN := Lib.hid (cells_news hA)
  have HO := Lib.hid (rowI_one A 1600)
  have HLEN := Lib.hid (rowI_length A 1600)
  clear hA
  obtain ⟨i0, hi, hz0', hz1, hz2⟩ := info_parts infoI
  go_enter Tryd.func19, Tryd.ntmps19
  go_wp2_with (at_builtin; refine wpList_append_own _ rfl _ _ 39 rfl w.heap.size 3 i0 (.int .i64 0) 1 8 Tryd.underlying39 hi hz0' hz1 hz2 rfl (by decide) _ _ _ rfl RN ⟨g, 0, none⟩ 1600 cap (rowI A 1600) rfl HLEN.out HN.out HO.out (by decide) (by omega) (Nat.le_refl _) ?_; intro v' w1 hown' hgrow hnil)
  clear hi hz0' hz1 hz2 hnil
  rw [Nat.zero_add, List.nil_append] at hown'
  obtain ⟨h, c, rfl, hb, hcap, hl, _, hR⟩ := owns_row (by omega) hown'
  have R := hR (rhoK A 0) rfl
  have Q : Below w.heap.size w w1 := (Below.refl w.heap.size w).grown hgrow (Nat.le_refl _) (fun j e => by cases e)
  clear hR hown' hgrow RN HN HO HLEN
  have HB := Lib.hid (And.intro hb hcap)
  clear hcap
  go_wp2_with fail
  go_loopw [4, 5, 6] (fun vx vy i wr => ∃ t : Nat, t ≤ 24 ∧ i = .int .i64 (t : Int) ∧ vx = .int .i64 (((wx t).1 : Nat) : Int) ∧ vy = .int .i64 (((wx t).2 : Nat) : Int) ∧ RowAt wr h 1600 (rhoK A t) ∧ Below w.heap.size w wr) (fun _ _ i _ => 24 - (intOf i).toNat)
  case atStart => exact ⟨0, by omega, rfl, rfl, rfl, R, Q⟩
  case round =>
    clear R Q
    obtain ⟨t, ht, rfl, rfl, rfl, R, Q⟩ := hrel
    by_cases ht4 : t < 24
    · have htI : (t : Int) < 24 := by omega
      have ht0 : (0 : Int) ≤ (t : Int) := by omega
      have hmm : (t + 1) * (t + 2) ≤ 24 * 25 := Nat.mul_le_mul (by omega) (by omega)
      have em : ((t : Int) + 1) * ((t : Int) + 2) = (((t + 1) * (t + 2) : Nat) : Int) := by rw [Int.natCast_mul]; rfl
      have HZ := Lib.hid (fun z (hz : z < 64) => rhoZ_set A t z hz)
      obtain ⟨m, hmd⟩ : ∃ m, (t + 1) * (t + 2) = m := ⟨_, rfl⟩
      simp only [hmd] at hmm em HZ
      have hmI : (m : Int) ≤ 600 := by omega
      have ed : (m : Int).tdiv 2 = ((m / 2 : Nat) : Int) := by rw [Int.tdiv_eq_ediv_of_nonneg (by omega)]; omega
      have er : ((m / 2 : Nat) : Int).tmod 64 = ((m / 2 % 64 : Nat) : Int) := by rw [Int.tmod_eq_emod_of_nonneg (by omega)]; omega
      have hr6 : m / 2 % 64 < 64 := Nat.mod_lt _ (by omega)
      clear hmd
      have HZA := Lib.hid (rhoZ_all A t)
      have R : RowAt wr h 1600 (rhoZ A t 0) := R.congr (fun j _ => (rhoZ_zero A t j).symm)
      have hx := (wx_lt t).1
      have hy := (wx_lt t).2
      have hx1 : (wx (t + 1)).1 = (wx t).2 := rfl
      have hy1 : (wx (t + 1)).2 = (2 * (wx t).1 + 3 * (wx t).2) % 5 := rfl
      have hwl : wl t = 5 * (wx t).2 + (wx t).1 := rfl
      have en : (2 * (((wx t).1 : Nat) : Int) + 3 * (((wx t).2 : Nat) : Int)).tmod 5 = (((2 * (wx t).1 + 3 * (wx t).2) % 5 : Nat) : Int) := by rw [Int.tmod_eq_emod_of_nonneg (by omega)]; omega
      rw [← hy1] at en
      have hm2' : m / 2 ≤ 600 := by omega
      generalize m / 2 % 64 = r at *
      generalize m / 2 = m2 at *
      have HX1 := Lib.hid hx1
      clear hx1 hy1
      generalize hny : (wx (t + 1)).2 = ny at *
      have HNY := Lib.hid hny
      clear hny
      generalize hwx : (wx t).1 = x at *
      generalize hwy : (wx t).2 = y at *
      clear hwx hwy
      generalize wl t = l at *
      have hxI : (x : Int) < 5 := by omega
      have hyI : (y : Int) < 5 := by omega
      have hrI : (r : Int) < 64 := by omega
      have hr0 : (0 : Int) ≤ (r : Int) := by omega
      have hm2 : (m2 : Int) ≤ 600 := by omega
      have HLT := Lib.hid ht4
      clear ht ht4 hmm
      go_wp2_with fail
      go_loopw [8] (fun i wr => ∃ z : Nat, z ≤ 64 ∧ i = .int .i64 (z : Int) ∧ RowAt wr h 1600 (rhoZ A t z) ∧ Below w.heap.size w wr) (fun i _ => 64 - (intOf i).toNat)
      case atStart => exact ⟨0, by omega, rfl, R, Q⟩
      case round =>
        clear R Q
        obtain ⟨z, hz, rfl, R, Q⟩ := hrel
        by_cases hz6 : z < 64
        · have hzI : (z : Int) < 64 := by omega
          have hz0 : (0 : Int) ≤ (z : Int) := by omega
          have hS := HZ.out z hz6
          have hp : 64 * l + z < 1600 := by omega
          have hb2 : 64 * l + (z + 64 - r) % 64 < 1600 := by have := Nat.mod_lt (z + 64 - r) (show 64 > 0 by omega); omega
          have AP := Lib.hid (at_nat (x : Int) (y : Int) (z : Int) (64 * l + z) (by omega) (by omega) (by omega) (by unfold atN; omega))
          have AQ := Lib.hid (at_nat (x : Int) (y : Int) ((z : Int) - (r : Int)) (64 * l + (z + 64 - r) % 64) (by omega) (by omega) (by omega) (by unfold atN; omega))
          have ka := HA.out _ hb2
          have HLZ := Lib.hid hz6
          have HL := Lib.hid R
          have HQ := Lib.hid Q
          clear R Q hz hz6
          generalize 64 * l + (z + 64 - r) % 64 = b at *
          generalize 64 * l + z = p at *
          have hpI : (p : Int) < 1600 := by omega
          have hbI : (b : Int) < 1600 := by omega
          have HS := Lib.hid hS
          clear hS
          go_wp2_with fail
          refine (AP.out _).mono ?_
          rintro e w2 ⟨rfl, q2⟩
          replace HL := Lib.hid (HL.out.later q2)
          replace HQ := Lib.hid (HQ.out.trans (q2.mono HQ.out.size))
          clear q2
          go_wp2_with fail
          refine (AQ.out _).mono ?_
          rintro e w3 ⟨rfl, q3⟩
          replace HL := Lib.hid (HL.out.later q3)
          replace HQ := Lib.hid (HQ.out.trans (q3.mono HQ.out.size))
          clear q3
          have kb : w3.cell? ⟨g, b, none⟩ = some (.int .i64 ((A b : Nat) : Int)) := (HQ.out.cell (p := ⟨g, b, none⟩) hg).trans ka
          have kc := HL.out.cellsAt p hp
          have kz := HL.out.frozen p
          have N1 := Lib.hid (HL.out.set (B := rhoZ A t (z + 1)) p (A b) HS.out)
          have N2 := Lib.hid (HQ.out.setCell (p := ⟨h, p, none⟩) HB.out.1 (.int .i64 ((A b : Nat) : Int)))
          clear ka HL HQ HS
          generalize A b = v at *
          have hcp : (p : Int) < (c : Int) := by have := HB.out.2; omega
          go_wp2_with fail
          go_roundw
          case rel => exact ⟨z + 1, by have := HLZ.out; omega, by simp, N1.out, N2.out⟩
          case measure => simp [intOf]; omega
        · obtain rfl : z = 64 := by omega
          simp only [Int.cast_ofNat_Int]
          have HL := Lib.hid (R.congr (B := rhoK A (t + 1)) (fun j _ => HZA.out j))
          have HQ := Lib.hid Q
          clear R Q
          go_wp2_with fail
          go_roundw
          case rel => exact ⟨t + 1, by have := HLT.out; omega, by simp, by rw [HX1.out], by rw [HNY.out], HL.out, HQ.out⟩
          case measure => simp [intOf]; omega
    · obtain rfl : t = 24 := by omega
      have HL := Lib.hid R
      have HQ := Lib.hid Q
      clear R Q
      go_wp2_with fail
      go_ret
      exact ⟨_, _, rfl, HB.out.1, HL.out, HQ.out⟩
end Go.Proofs.YtobdjakflknlcaaDoor
