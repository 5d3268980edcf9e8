/- The document's own answer of layer 1: words of ints, their order, their digits, and words of digits. For every word. -/
import Derived.Test.YtnjmhcooejcehaaDoorRefM
import Derived.Test.YtnjmhcooejcehaaDoorWordE
import Derived.Maps.AppendAt
namespace Go.Proofs.YtnjmhcooejcehaaDoor
open Go Go.RowKit Go.Shelf
attribute [local go_sem] Oper.semAt_some Grows wide_fn

/-! ### Blocks of ints -/
theorem Arr4.mk0' (W : World) (t : TypeId) : Arr4 (W.alloc (.cells #[.int .u64 0, .int .u64 0, .int .u64 0, .int .u64 0] t)) W.heap.size t (fun _ => 0) := World.alloc_heap_new W _
theorem Arr4.later' {W W' : World} {B : Nat} {t : TypeId} {m : Nat → Int} (h : Arr4 W B t m) (hb : Below W.heap.size W W') : Arr4 W' B t m := h.below hb h.lt
theorem Arr4.same4 {W : World} {B : Nat} {t : TypeId} {m m' : Nat → Int} (h : Arr4 W B t m) (h0 : m 0 = m' 0) (h1 : m 1 = m' 1) (h2 : m 2 = m' 2) (h3 : m 3 = m' 3) : Arr4 W B t m' := by
  unfold Arr4 at *
  rw [h, h0, h1, h2, h3]
/-- Block g holds n ints. -/
def IntsAt (W : World) (g n : Nat) (d : Nat → Int) : Prop := ∃ cur, W.heap[g]? = some (.cells cur 3 (0, 0)) ∧ ∀ j, j < n → cur[j]? = some (.int .i64 (d j))
theorem IntsAt.lt {W : World} {g n : Nat} {d : Nat → Int} (h : IntsAt W g n d) : g < W.heap.size := by
  obtain ⟨cur, h1, _⟩ := h
  exact (Array.getElem?_eq_some_iff.1 h1).1
theorem IntsAt.cell {W : World} {g n : Nat} {d : Nat → Int} (h : IntsAt W g n d) {j : Nat} (hj : j < n) : W.cell? ⟨g, j, none⟩ = some (.int .i64 (d j)) := by
  obtain ⟨cur, h1, h2⟩ := h
  simp [World.cell?, h1, h2 j hj]
theorem IntsAt.frozen {W : World} {g n : Nat} {d : Nat → Int} (h : IntsAt W g n d) (j : Nat) : W.frozen? ⟨g, j, none⟩ = false := by
  obtain ⟨cur, h1, _⟩ := h
  simp [World.frozen?, h1]
theorem IntsAt.kept {W W' : World} {row : Option Nat} {g n : Nat} {d : Nat → Int} (h : IntsAt W g n d) (hg : W.grownBy W' row) (hne : some g ≠ row) : IntsAt W' g n d := by
  have hl := h.lt
  obtain ⟨cur, h1, h2⟩ := h
  exact ⟨cur, (hg.block g hl hne).trans h1, h2⟩
theorem IntsAt.below {W W' : World} {g n m : Nat} {d : Nat → Int} (h : IntsAt W g n d) (hb : Below m W W') (hlt : g < m) : IntsAt W' g n d := by
  obtain ⟨cur, h1, h2⟩ := h
  exact ⟨cur, (hb.block g hlt).trans h1, h2⟩
theorem IntsAt.later {W W' : World} {g n : Nat} {d : Nat → Int} (h : IntsAt W g n d) (hb : Below W.heap.size W W') : IntsAt W' g n d := h.below hb h.lt
theorem IntsAt.alloc {W : World} {g n : Nat} {d : Nat → Int} (h : IntsAt W g n d) (o : Obj) : IntsAt (W.alloc o) g n d := h.kept (World.grownBy_alloc W o none) (by simp)
theorem IntsAt.other {W : World} {g n : Nat} {d : Nat → Int} (h : IntsAt W g n d) {p : Addr} (hne : g ≠ p.block) (v : Value) : IntsAt (W.setCell p v) g n d := by
  obtain ⟨cur, h1, h2⟩ := h
  exact ⟨cur, (Below.heap_setCell W p v g hne).trans h1, h2⟩
theorem IntsAt.set {W : World} {g n : Nat} {d : Nat → Int} (h : IntsAt W g n d) {k : Nat} (hk : k < n) (v : Int) : IntsAt (W.setCell ⟨g, k, none⟩ (.int .i64 v)) g n (fun j => if j = k then v else d j) := by
  obtain ⟨cur, h1, h2⟩ := h
  obtain ⟨hlt, he⟩ := Array.getElem?_eq_some_iff.1 h1
  refine ⟨cur.setIfInBounds k (.int .i64 v), ?_, fun j hj => ?_⟩
  · show (W.heap.modify g _)[g]? = _
    rw [Array.getElem?_eq_getElem (by rw [Array.size_modify]; exact hlt), Array.getElem_modify_self, he]
    rfl
  · have hs : k < cur.size := (Array.getElem?_eq_some_iff.1 (h2 k hk)).1
    show (cur.setIfInBounds k (.int .i64 v))[j]? = some (.int .i64 (if j = k then v else d j))
    by_cases e : j = k
    · subst e
      rw [if_pos rfl, Array.getElem?_setIfInBounds_self_of_lt hs]
    · rw [if_neg e, Array.getElem?_setIfInBounds_ne (by omega)]
      exact h2 j hj
theorem IntsAt.congr {W : World} {g n : Nat} {d e : Nat → Int} (h : IntsAt W g n d) (he : ∀ j, j < n → d j = e j) : IntsAt W g n e := by
  obtain ⟨cur, h1, h2⟩ := h
  exact ⟨cur, h1, fun j hj => by rw [← he j hj]; exact h2 j hj⟩
theorem IntsAt.of_row {W : World} {base n g cap : Nat} {d : Nat → Int} {xs : List Value} (h : W.ownsRow base 3 1 (.slice (some ⟨g, 0, none⟩) n cap) n xs) (hx : ∀ j, j < n → xs[j]? = some (.int .i64 (d j))) : base ≤ g ∧ IntsAt W g n d := by
  rcases h.2 with ⟨h1, _⟩ | ⟨g', cap', cur, h1, hb, hg, _, _, _, ht⟩
  · cases h1
  · injection h1 with e1 _ _
    injection e1 with e2
    injection e2 with e3 _ _
    subst e3
    refine ⟨hb, cur, hg, fun j hj => ?_⟩
    have := hx j hj
    rw [← ht, List.getElem?_take] at this
    split at this
    · simpa using this
    · cases this
theorem cell_one (w : World) (x : Value) (t : TypeId) : ∀ j u, [x][j]? = some u → (w.alloc (.cells #[x] t)).cell? ((⟨w.heap.size, 0, none⟩ : Addr).add j) = some u := by
  intro j u hj
  match j, hj with
  | 0, hj =>
    simp at hj
    subst hj
    show (w.alloc (.cells #[x] t)).cell? ⟨w.heap.size, 0, none⟩ = some x
    simp only [World.cell?, show (w.alloc (.cells #[x] t)).heap[w.heap.size]? = _ from World.alloc_heap_new w _]
    rfl
  | j + 1, hj => simp at hj
theorem infoI : (Tryd.prog.info? 3).map (fun i => (i.zero, i.size, i.bytes)) = some (some (.int .i64 0), 1, 8) := by kernel_rfl
theorem row_below {w w' : World} {base : Nat} {e : TypeId} {size : Nat} {v : Value} {n : Nat} {xs : List Value} (h : w.ownsRow base e size v n xs) (hb : Below w.heap.size w w') : w'.ownsRow base e size v n xs :=
  h.kept (grown_of_below hb none) (by cases hv : v.ownBlock <;> simp)

/-- The same for a list of operations. -/
theorem wp_region_quietR {P : Program} {C : World → Prop} {id : Nat} {Q : Exit → Act → World → Prop} {a : Act} {w : World} {l : List Oper} (hm : P.follows .mixedOrders = true) (hB : Region.lexB .any l.toArray = true)
    (hC : C { w with drawn := w.drawn + 1 }) (h : wpQuiet P l.toArray C (fun a' => ∀ w', C w' → Q .normal a' w') l a) : (Code.region id l.toArray true).wp P Q a w :=
  wp_region_quiet (C := C) hm hB hC (by simpa using h)

/-! ### Digits -/
def dgsV (a n : Nat) : List Value := (List.range n).map fun j => Value.int .i64 (dg a j : Int)
theorem dgsV_succ (a n : Nat) : dgsV a (n + 1) = dgsV a n ++ [.int .i64 (dg a n : Int)] := by simp [dgsV, List.range_succ]
theorem dgsV_length (a n : Nat) : (dgsV a n).length = n := by simp [dgsV]
/-- A word's part behind q divisions by 256. -/
def dvAt (a p : Nat) : Nat → Int
  | 0 => lim a p
  | q + 1 => dvAt a p q / 256
theorem dvAt_eq (a p : Nat) : ∀ q, dvAt a p q = lim a p / 256 ^ q
  | 0 => by simp [dvAt]
  | q + 1 => by
    rw [dvAt, dvAt_eq a p q, Int.pow_succ, Int.ediv_ediv_of_nonneg (Int.le_of_lt (Int.pow_pos (by decide)))]
theorem dvAt_u64 (a p : Nat) : ∀ q, U64 (dvAt a p q)
  | 0 => lim_u64 a p
  | q + 1 => by have := dvAt_u64 a p q; unfold U64 at *; unfold dvAt; omega
theorem dvAt_digit (a p q : Nat) (hp : p < 4) (hq : q < 8) : dvAt a p q % 256 = (dg a (8 * p + q) : Int) := by rw [dvAt_eq, dg_lim a p q hp hq]

set_option maxRecDepth 100000 in
set_option maxHeartbeats 2000000 in
theorem digits_any (a : Nat) (w : World) : Calls Tryd.prog 41 #[wv a] w fun e w' => ∃ g cap, e = .returned (.slice (some ⟨g, 0, none⟩) 32 cap) ∧ w.heap.size ≤ g ∧ IntsAt w' g 32 (fun j => (dg a j : Int)) ∧ Below w.heap.size w w' := by
  have A0 := Arr4.word w 24 a
  have B0 := (Below.refl _ w).alloc (Nat.le_refl _) (.cells #[.int .u64 (lim a 0), .int .u64 (lim a 1), .int .u64 (lim a 2), .int .u64 (lim a 3)] 24)
  unfold wv
  go_enter Tryd.func41, Tryd.ntmps41
  go_wp2
  have R0 := World.ownsRow_nil (w.alloc (.cells #[.int .u64 (lim a 0), .int .u64 (lim a 1), .int .u64 (lim a 2), .int .u64 (lim a 3)] 24)) (w.heap.size + 1) 3 1
  have hs0 : w.heap.size + 1 ≤ (w.alloc (.cells #[.int .u64 (lim a 0), .int .u64 (lim a 1), .int .u64 (lim a 2), .int .u64 (lim a 3)] 24)).heap.size := by simp
  obtain ⟨W0, hW0⟩ : ∃ W0, w.alloc (.cells #[.int .u64 (lim a 0), .int .u64 (lim a 1), .int .u64 (lim a 2), .int .u64 (lim a 3)] 24) = W0 := ⟨_, rfl⟩
  rw [hW0] at A0 B0 R0 hs0 ⊢
  clear hW0
  go_loopw [3, 4] (fun t i wr => ∃ p : Nat, p ≤ 4 ∧ i = .int .i64 (p : Int) ∧ Arr4 wr w.heap.size 24 (lim a) ∧ wr.ownsRow (w.heap.size + 1) 3 1 t (8 * p) (dgsV a (8 * p)) ∧ Below w.heap.size w wr ∧ w.heap.size + 1 ≤ wr.heap.size) (fun _ i _ => 4 - (intOf i).toNat)
  case atStart => exact ⟨0, by omega, rfl, A0, R0, B0, hs0⟩
  case round =>
    obtain ⟨p, hp, rfl, aw, hown, hB, hsz⟩ := hrel
    clear A0 B0 R0 hs0
    by_cases hlt : p < 4
    · have hpI : (p : Int) < 4 := by omega
      have hp0 : (0 : Int) ≤ (p : Int) := by omega
      have cp := aw.cell hlt
      have HP := Lib.hid hlt
      clear hp hlt
      obtain ⟨wo, rfl⟩ : ∃ wo : World, wo = wr := ⟨_, rfl⟩
      go_wp2
      go_loopw [3, 5, 6] (fun t x k wr => ∃ q : Nat, q ≤ 8 ∧ k = .int .i64 (q : Int) ∧ x = .int .u64 (dvAt a p q) ∧ Arr4 wr w.heap.size 24 (lim a) ∧ wr.ownsRow (w.heap.size + 1) 3 1 t (8 * p + q) (dgsV a (8 * p + q)) ∧ Below w.heap.size w wr ∧ w.heap.size + 1 ≤ wr.heap.size) (fun _ _ k _ => 8 - (intOf k).toNat)
      case atStart => exact ⟨0, by omega, rfl, rfl, aw, hown, hB, hsz⟩
      case round =>
        obtain ⟨q, hq, rfl, rfl, aw, hown, hB, hsz⟩ := hrel
        by_cases hlt : q < 8
        · have hqI : (q : Int) < 8 := by omega
          have hq0 : (0 : Int) ≤ (q : Int) := by omega
          have hd := dvAt_digit a p q HP.out hlt
          have hu := dvAt_u64 a p q
          have hn : dvAt a p (q + 1) = dvAt a p q / 256 := rfl
          have HN := Lib.hid hn
          have HD := Lib.hid (dgsV_succ a (8 * p + q))
          have hb := dg_lt a (8 * p + q)
          have HQ := Lib.hid hlt
          have AW := Lib.hid aw
          have HO := Lib.hid hown
          have HB := Lib.hid hB
          have HZ := Lib.hid hsz
          obtain ⟨hu0, hu1⟩ := hu
          generalize dvAt a p q = y at *
          have e1 : y.tmod 256 = (dg a (8 * p + q) : Int) := by rw [Int.tmod_eq_emod_of_nonneg hu0, hd]
          have e2 : y.tdiv 256 = y / 256 := Int.tdiv_eq_ediv_of_nonneg hu0
          have hb0 : (0 : Int) ≤ (dg a (8 * p + q) : Int) := by omega
          have hb1 : (dg a (8 * p + q) : Int) < 256 := by omega
          have hy0 : 0 ≤ y / 256 := by omega
          have hy1 : y / 256 < 18446744073709551616 := by omega
          have hcap : 8 * p + q < 32 := by have := HP.out; omega
          generalize (dg a (8 * p + q) : Int) = b at *
          generalize hnE : 8 * p + q = n at *
          have HE := Lib.hid hnE
          clear hnE
          obtain ⟨i0, hi, hz0, hz1, hz2⟩ := info_parts infoI
          clear hq hlt hd hn hb aw hown hB hsz
          go_wp2_with (at_builtin; refine wpList_append_own _ rfl _ _ 36 rfl (w.heap.size + 1) 3 i0 (.int .i64 0) 1 8 Tryd.underlying36 hi hz0 hz1 hz2 rfl (by decide) _ _ _ rfl (HO.out.alloc _) ⟨wr.heap.size, 0, none⟩ 1 1 [.int .i64 b] rfl rfl (cell_one _ _ _) (by simp [Value.oneCell']) (by unfold maxLen; omega) (by omega) (by have := HZ.out; simp; omega) ?_; intro v' w3 hown' hgrow hnil)
          clear hi hz0 hz1 hz2
          go_wp2
          go_roundw
          case rel =>
            have hxs3 := hgrow.size
            have hltA := AW.out.lt
            have hzz := HZ.out
            refine ⟨q + 1, HQ.out, by simp, by rw [HN.out], ?_, ?_, ?_, by simp at hxs3; omega⟩
            · exact (AW.out.alloc _).kept hgrow (fun e => by have := (HO.out.alloc (.cells #[.int .i64 b] 3)).lt _ e.symm; omega)
            · rw [show 8 * p + (q + 1) = n + 1 by have := HE.out; omega, HD.out]; exact hown'
            · exact (HB.out.alloc (by omega) _).grown hgrow (by simp; omega) (fun j e => by have := (HO.out.alloc (.cells #[.int .i64 b] 3)).lt j e; omega)
          case measure => have := HQ.out; simp [intOf]; omega
        · obtain rfl : q = 8 := by omega
          have HO := Lib.hid hown
          clear hq hlt hown
          have HA := Lib.hid aw
          have HB := Lib.hid hB
          have HZ := Lib.hid hsz
          clear aw hB hsz
          go_wp2
          go_roundw
          case rel => exact ⟨p + 1, HP.out, by simp, HA.out, HO.out, HB.out, HZ.out⟩
          case measure => have := HP.out; simp [intOf]; omega
    · obtain rfl : p = 4 := by omega
      obtain ⟨g, cap, rfl⟩ := ownsRow_succ (k := 31) hown
      have hx := IntsAt.of_row (d := fun j => (dg a j : Int)) hown (fun j hj => by simp [dgsV, hj])
      have HX := Lib.hid hx
      have HB := Lib.hid hB
      clear hp hlt hown aw hB hsz hx
      go_wp2
      go_ret
      exact ⟨g, cap, rfl, by have := HX.out.1; omega, HX.out.2, HB.out⟩
end Go.Proofs.YtnjmhcooejcehaaDoor
