/- Part. -/
import Derived.Maps.AppendAt
import Derived.Test.YtnkhmgmganejmaaGreatDoorT09
import Derived.Test.YtnkhmgmganejmaaGreatDoorT04
import Derived.Laws.BitsAllLaws
set_option maxRecDepth 100000
set_option maxHeartbeats 16000000
namespace Go.Proofs.YtnkhmgmganejmaaGreatDoor
section
open Go Go.RowKit Go.Shelf
attribute [local go_sem] Oper.semAt_some Grows wide_fn
theorem Arr4.mk0' (W : World) (t : TypeId) : Arr4 (W.alloc (.cells #[.int .u64 0, .int .u64 0, .int .u64 0, .int .u64 0] t)) W.heap.size t (fun _ => 0) := World.alloc_heap_new W _
theorem Arr4.later' {W W' : World} {B : Nat} {t : TypeId} {m : Nat → Int} (h : Arr4 W B t m) (hb : Below W.heap.size W W') : Arr4 W' B t m := h.below hb h.lt
theorem Arr4.same4 {W : World} {B : Nat} {t : TypeId} {m m' : Nat → Int} (h : Arr4 W B t m) (h0 : m 0 = m' 0) (h1 : m 1 = m' 1) (h2 : m 2 = m' 2) (h3 : m 3 = m' 3) : Arr4 W B t m' := by
 unfold Arr4 at *
 rw [h, h0, h1, h2, h3]
def IntsAt (W : World) (g n : Nat) (d : Nat → Int) : Prop := ∃ cur, W.heap[g]? = some (.cells cur 3 (0, 0)) ∧ ∀ j, j < n → cur[j]? = some (.int .i64 (d j))
theorem IntsAt.lt {W : World} {g n : Nat} {d : Nat → Int} (h : IntsAt W g n d) : g < W.heap.size := by
 obtain ⟨cur, h1, _⟩ := h
 exact (Array.getElem?_eq_some_iff.1 h1).1
theorem IntsAt.cell {W : World} {g n : Nat} {d : Nat → Int} (h : IntsAt W g n d) {j : Nat} (hj : j < n) : W.cell? ⟨g, j, none⟩ = some (.int .i64 (d j)) := by
 obtain ⟨cur, h1, h2⟩ := h
 simp [World.cell?, h1, h2 j hj]
theorem IntsAt.frozen {W : World} {g n : Nat} {d : Nat → Int} (h : IntsAt W g n d) (j : Nat) : W.frozen? ⟨g, j, none⟩ = false := by
 obtain ⟨cur, h1, _⟩ := h
 simp [World.frozen?, h1]
theorem IntsAt.kept {W W' : World} {row : Option Nat} {g n : Nat} {d : Nat → Int} (h : IntsAt W g n d) (hg : W.grownBy W' row) (hne : some g ≠ row) : IntsAt W' g n d := by
 have hl := h.lt
 obtain ⟨cur, h1, h2⟩ := h
 exact ⟨cur, (hg.block g hl hne).trans h1, h2⟩
theorem IntsAt.below {W W' : World} {g n m : Nat} {d : Nat → Int} (h : IntsAt W g n d) (hb : Below m W W') (hlt : g < m) : IntsAt W' g n d := by
 obtain ⟨cur, h1, h2⟩ := h
 exact ⟨cur, (hb.block g hlt).trans h1, h2⟩
theorem IntsAt.later {W W' : World} {g n : Nat} {d : Nat → Int} (h : IntsAt W g n d) (hb : Below W.heap.size W W') : IntsAt W' g n d := h.below hb h.lt
theorem IntsAt.alloc {W : World} {g n : Nat} {d : Nat → Int} (h : IntsAt W g n d) (o : Obj) : IntsAt (W.alloc o) g n d := h.kept (World.grownBy_alloc W o none) (by simp)
theorem IntsAt.other {W : World} {g n : Nat} {d : Nat → Int} (h : IntsAt W g n d) {p : Addr} (hne : g ≠ p.block) (v : Value) : IntsAt (W.setCell p v) g n d := by
 obtain ⟨cur, h1, h2⟩ := h
 exact ⟨cur, (Below.heap_setCell W p v g hne).trans h1, h2⟩
theorem IntsAt.set {W : World} {g n : Nat} {d : Nat → Int} (h : IntsAt W g n d) {k : Nat} (hk : k < n) (v : Int) : IntsAt (W.setCell ⟨g, k, none⟩ (.int .i64 v)) g n (fun j => if j = k then v else d j) := by
 obtain ⟨cur, h1, h2⟩ := h
 obtain ⟨hlt, he⟩ := Array.getElem?_eq_some_iff.1 h1
 refine ⟨cur.setIfInBounds k (.int .i64 v), ?_, fun j hj => ?_⟩
 ·show (W.heap.modify g _)[g]? = _
  rw [Array.getElem?_eq_getElem (by rw [Array.size_modify]; exact hlt), Array.getElem_modify_self, he]
  rfl
 ·have hs : k < cur.size := (Array.getElem?_eq_some_iff.1 (h2 k hk)).1
  show (cur.setIfInBounds k (.int .i64 v))[j]? = some (.int .i64 (if j = k then v else d j))
  by_cases e : j = k
  ·subst e
   rw [if_pos rfl, Array.getElem?_setIfInBounds_self_of_lt hs]
  ·rw [if_neg e, Array.getElem?_setIfInBounds_ne (by omega)]
   exact h2 j hj
theorem IntsAt.congr {W : World} {g n : Nat} {d e : Nat → Int} (h : IntsAt W g n d) (he : ∀ j, j < n → d j = e j) : IntsAt W g n e := by
 obtain ⟨cur, h1, h2⟩ := h
 exact ⟨cur, h1, fun j hj => by rw [← he j hj]; exact h2 j hj⟩
theorem IntsAt.of_row {W : World} {base n g cap : Nat} {d : Nat → Int} {xs : List Value} (h : W.ownsRow base 3 1 (.slice (some ⟨g, 0, none⟩) n cap) n xs) (hx : ∀ j, j < n → xs[j]? = some (.int .i64 (d j))) : base ≤ g ∧ IntsAt W g n d := by
 rcases h.2 with ⟨h1, _⟩ | ⟨g', cap', cur, h1, hb, hg, _, _, _, ht⟩
 ·cases h1
 ·injection h1 with e1 _ _
  injection e1 with e2
  injection e2 with e3 _ _
  subst e3
  refine ⟨hb, cur, hg, fun j hj => ?_⟩
  have := hx j hj
  rw [← ht, List.getElem?_take] at this
  split at this
  ·simpa using this
  ·cases this
theorem cell_one (w : World) (x : Value) (t : TypeId) : ∀ j u, [x][j]? = some u → (w.alloc (.cells #[x] t)).cell? ((⟨w.heap.size, 0, none⟩ : Addr).add j) = some u := by
 intro j u hj
 match j, hj with
 | 0, hj =>
  simp at hj
  subst hj
  show (w.alloc (.cells #[x] t)).cell? ⟨w.heap.size, 0, none⟩ = some x
  simp only [World.cell?, show (w.alloc (.cells #[x] t)).heap[w.heap.size]? = _ from World.alloc_heap_new w _]
  rfl
 | j + 1, hj => simp at hj
theorem infoI : (Tryz.prog.info? 3).map (fun i => (i.zero, i.size, i.bytes)) = some (some (.int .i64 0), 1, 8) := by kernel_rfl
theorem wp_region_quietR {P : Program} {C : World → Prop} {id : Nat} {Q : Exit → Act → World → Prop} {a : Act} {w : World} {l : List Oper} (hm : P.follows .mixedOrders = true) (hB : Region.lexB .any l.toArray = true)
  (hC : C { w with drawn := w.drawn + 1 }) (h : wpQuiet P l.toArray C (fun a' => ∀ w', C w' → Q .normal a' w') l a) : (Code.region id l.toArray true).wp P Q a w :=
 wp_region_quiet (C := C) hm hB hC (by simpa using h)
def dgsV (a n : Nat) : List Value := (List.range n).map fun j => Value.int .i64 (dg a j : Int)
theorem dgsV_succ (a n : Nat) : dgsV a (n + 1) = dgsV a n ++ [.int .i64 (dg a n : Int)] := by simp [dgsV, List.range_succ]
def dvAt (a p : Nat) : Nat → Int
 | 0 => lim a p
 | q + 1 => dvAt a p q / 256
theorem dvAt_eq (a p : Nat) : ∀ q, dvAt a p q = lim a p / 256 ^ q
 | 0 => by simp [dvAt]
 | q + 1 => by
  rw [dvAt, dvAt_eq a p q, Int.pow_succ, Int.ediv_ediv_of_nonneg (Int.le_of_lt (Int.pow_pos (by decide)))]
theorem dvAt_u64 (a p : Nat) : ∀ q, U64 (dvAt a p q)
 | 0 => lim_u64 a p
 | q + 1 => by have := dvAt_u64 a p q; unfold U64 at *; unfold dvAt; omega
theorem dvAt_digit (a p q : Nat) (hp : p < 4) (hq : q < 8) : dvAt a p q % 256 = (dg a (8 * p + q) : Int) := by rw [dvAt_eq, dg_lim a p q hp hq]
theorem digits_any (a : Nat) (w : World) : Calls Tryz.prog 73 #[wv a] w fun e w' => ∃ g cap, e = .returned (.slice (some ⟨g, 0, none⟩) 32 cap) ∧ w.heap.size ≤ g ∧ IntsAt w' g 32 (fun j => (dg a j : Int)) ∧ Below w.heap.size w w' := by
 have A0 := Arr4.word w 24 a
 have B0 := (Below.refl _ w).alloc (Nat.le_refl _) (.cells #[.int .u64 (lim a 0), .int .u64 (lim a 1), .int .u64 (lim a 2), .int .u64 (lim a 3)] 24)
 unfold wv
 go_enter Tryz.func73, Tryz.ntmps73
 go_wp2
 have R0 := World.ownsRow_nil (w.alloc (.cells #[.int .u64 (lim a 0), .int .u64 (lim a 1), .int .u64 (lim a 2), .int .u64 (lim a 3)] 24)) (w.heap.size + 1) 3 1
 have hs0 : w.heap.size + 1 ≤ (w.alloc (.cells #[.int .u64 (lim a 0), .int .u64 (lim a 1), .int .u64 (lim a 2), .int .u64 (lim a 3)] 24)).heap.size := by simp
 obtain ⟨W0, hW0⟩ : ∃ W0, w.alloc (.cells #[.int .u64 (lim a 0), .int .u64 (lim a 1), .int .u64 (lim a 2), .int .u64 (lim a 3)] 24) = W0 := ⟨_, rfl⟩
 rw [hW0] at A0 B0 R0 hs0 ⊢
 clear hW0
 go_loopw [3, 4] (fun t i wr => ∃ p : Nat, p ≤ 4 ∧ i = .int .i64 (p : Int) ∧ Arr4 wr w.heap.size 24 (lim a) ∧ wr.ownsRow (w.heap.size + 1) 3 1 t (8 * p) (dgsV a (8 * p)) ∧ Below w.heap.size w wr ∧ w.heap.size + 1 ≤ wr.heap.size) (fun _ i _ => 4 - (intOf i).toNat)
 case atStart => exact ⟨0, by omega, rfl, A0, R0, B0, hs0⟩
 case round =>
  obtain ⟨p, hp, rfl, aw, hown, hB, hsz⟩ := hrel
  clear A0 B0 R0 hs0
  by_cases hlt : p < 4
  ·have hpI : (p : Int) < 4 := by omega
   have hp0 : (0 : Int) ≤ (p : Int) := by omega
   have cp := aw.cell hlt
   have HP := Lib.hid hlt
   clear hp hlt
   obtain ⟨wo, rfl⟩ : ∃ wo : World, wo = wr := ⟨_, rfl⟩
   go_wp2
   go_loopw [3, 5, 6] (fun t x k wr => ∃ q : Nat, q ≤ 8 ∧ k = .int .i64 (q : Int) ∧ x = .int .u64 (dvAt a p q) ∧ Arr4 wr w.heap.size 24 (lim a) ∧ wr.ownsRow (w.heap.size + 1) 3 1 t (8 * p + q) (dgsV a (8 * p + q)) ∧ Below w.heap.size w wr ∧ w.heap.size + 1 ≤ wr.heap.size) (fun _ _ k _ => 8 - (intOf k).toNat)
   case atStart => exact ⟨0, by omega, rfl, rfl, aw, hown, hB, hsz⟩
   case round =>
    obtain ⟨q, hq, rfl, rfl, aw, hown, hB, hsz⟩ := hrel
    by_cases hlt : q < 8
    ·have hqI : (q : Int) < 8 := by omega
     have hq0 : (0 : Int) ≤ (q : Int) := by omega
     have hd := dvAt_digit a p q HP.out hlt
     have hu := dvAt_u64 a p q
     have hn : dvAt a p (q + 1) = dvAt a p q / 256 := rfl
     have HN := Lib.hid hn
     have HD := Lib.hid (dgsV_succ a (8 * p + q))
     have hb := dg_lt a (8 * p + q)
     have HQ := Lib.hid hlt
     have AW := Lib.hid aw
     have HO := Lib.hid hown
     have HB := Lib.hid hB
     have HZ := Lib.hid hsz
     obtain ⟨hu0, hu1⟩ := hu
     generalize dvAt a p q = y at *
     have e1 : y.tmod 256 = (dg a (8 * p + q) : Int) := by rw [Int.tmod_eq_emod_of_nonneg hu0, hd]
     have e2 : y.tdiv 256 = y / 256 := Int.tdiv_eq_ediv_of_nonneg hu0
     have hb0 : (0 : Int) ≤ (dg a (8 * p + q) : Int) := by omega
     have hb1 : (dg a (8 * p + q) : Int) < 256 := by omega
     have hy0 : 0 ≤ y / 256 := by omega
     have hy1 : y / 256 < 18446744073709551616 := by omega
     have hcap : 8 * p + q < 32 := by have := HP.out; omega
     generalize (dg a (8 * p + q) : Int) = b at *
     generalize hnE : 8 * p + q = n at *
     have HE := Lib.hid hnE
     clear hnE
     obtain ⟨i0, hi, hz0, hz1, hz2⟩ := info_parts infoI
     clear hq hlt hd hn hb aw hown hB hsz
     go_wp2_with (at_builtin; refine wpList_append_own _ rfl _ _ 93 rfl (w.heap.size + 1) 3 i0 (.int .i64 0) 1 8 Tryz.underlying93 hi hz0 hz1 hz2 rfl (by decide) _ _ _ rfl (HO.out.alloc _) ⟨wr.heap.size, 0, none⟩ 1 1 [.int .i64 b] rfl rfl (cell_one _ _ _) (by simp [Value.oneCell']) (by unfold maxLen; omega) (by omega) (by have := HZ.out; simp; omega) ?_; intro v' w3 hown' hgrow hnil)
     clear hi hz0 hz1 hz2
     go_wp2
     go_roundw
     case rel =>
      have hxs3 := hgrow.size
      have hltA := AW.out.lt
      have hzz := HZ.out
      refine ⟨q + 1, HQ.out, by simp, by rw [HN.out], ?_, ?_, ?_, by simp at hxs3; omega⟩
      ·exact (AW.out.alloc _).kept hgrow (fun e => by have := (HO.out.alloc (.cells #[.int .i64 b] 3)).lt _ e.symm; omega)
      ·rw [show 8 * p + (q + 1) = n + 1 by have := HE.out; omega, HD.out]; exact hown'
      ·exact (HB.out.alloc (by omega) _).grown hgrow (by simp; omega) (fun j e => by have := (HO.out.alloc (.cells #[.int .i64 b] 3)).lt j e; omega)
     case measure => have := HQ.out; simp [intOf]; omega
    ·obtain rfl : q = 8 := by omega
     have HO := Lib.hid hown
     clear hq hlt hown
     have HA := Lib.hid aw
     have HB := Lib.hid hB
     have HZ := Lib.hid hsz
     clear aw hB hsz
     go_wp2
     go_roundw
     case rel => exact ⟨p + 1, HP.out, by simp, HA.out, HO.out, HB.out, HZ.out⟩
     case measure => have := HP.out; simp [intOf]; omega
  ·obtain rfl : p = 4 := by omega
   obtain ⟨g, cap, rfl⟩ := ownsRow_succ (k := 31) hown
   have hx := IntsAt.of_row (d := fun j => (dg a j : Int)) hown (fun j hj => by simp [dgsV, hj])
   have HX := Lib.hid hx
   have HB := Lib.hid hB
   clear hp hlt hown aw hB hsz hx
   go_wp2
   go_ret
   exact ⟨g, cap, rfl, by have := HX.out.1; omega, HX.out.2, HB.out⟩
theorem grown_ext {w W W' : World} {row : Option Nat} (h : w.grownBy W row) (hb : Below W.heap.size W W') : w.grownBy W' row := grown_then_below h hb
theorem bringDown_any (r b bit br bb : Nat) (hr : r < b) (hb : W256 b) (hbit : bit ≤ 1) (hne : br ≠ bb) (w : World) (hR : Arr4 w br 24 (lim r)) (hB : Arr4 w bb 24 (lim b)) :
  Calls Tryz.prog 163 #[.pointer (some ⟨br, 0, none⟩), .pointer (some ⟨bb, 0, none⟩), .int .u64 (bit : Int)] w fun e w' =>
   e = .returned (.bool (decide (b ≤ 2 * r + bit))) ∧ Arr4 w' br 24 (lim (bdR r b bit)) ∧ w.grownBy w' (some br) := by
 have hr' : W256 r := by unfold W256 at *; omega
 have HDBL := Lib.hid (dbl_all r bit hr' hbit).1
 have HSUB := Lib.hid (sub_all (wmod (2 * r + bit)) b (wmod_lt _) hb).1
 have HDB := Lib.hid (dcA_bit r bit hbit)
 have HSB := Lib.hid (sbA_bit (wmod (2 * r + bit)) b)
 have HSHORT := Lib.hid (fun h => bd_short r b bit hb hr hbit h)
 have HLONG := Lib.hid (fun h => bd_long r b bit hb hr hbit h)
 have hlB := hB.lt
 have G0 : w.grownBy w (some br) := grown_of_below (Below.refl _ w) _
 have hbit0 : (0 : Int) ≤ (bit : Int) := by omega
 have hbit1 : (bit : Int) ≤ 1 := by omega
 have hnb : some bb ≠ some br := fun e => hne (by injection e with e; exact e.symm)
 go_enter Tryz.func163, Tryz.ntmps163
 go_wp2
 go_loopw [7, 8, 15] (fun ov sh q wr => ∃ k : Nat, k ≤ 4 ∧ q = .int .i64 (k : Int) ∧ ov = .int .u64 (dcA r bit k) ∧ sh = .int .u64 (sbA (wmod (2 * r + bit)) b k) ∧ Arr4 wr br 24 (fun j => if j < k then lim (wmod (2 * r + bit)) j else lim r j) ∧ w.grownBy wr (some br)) (fun _ _ q _ => 4 - (intOf q).toNat)
 case atStart => exact ⟨0, by omega, rfl, rfl, rfl, hR.same4 rfl rfl rfl rfl, G0⟩
 case round =>
  obtain ⟨k, hk, rfl, rfl, rfl, aR, G⟩ := hrel
  clear hR G0
  have aB := hB.kept G hnb
  by_cases hlt : k < 4
  ·have hkI : (k : Int) < 4 := by omega
   have hk0 : (0 : Int) ≤ (k : Int) := by omega
   have cR := aR.cell hlt
   rw [if_neg (by omega)] at cR
   have cB := aB.cell hlt
   have hd := HDB.out k
   have hs := HSB.out k
   have uR := lim_u64 r k
   have uB := lim_u64 b k
   have hdl := HDBL.out k hlt
   have e1 : (lim r k + lim r k + dcA r bit k) % 18446744073709551616 = lim (wmod (2 * r + bit)) k := hdl
   have e2 : (lim r k + lim r k + dcA r bit k) / 18446744073709551616 = dcA r bit (k + 1) := rfl
   have A1 : ∀ W, (callFunc 136 #[.int .u64 (lim r k), .int .u64 (lim r k), .int .u64 (dcA r bit k)]).run Tryz.prog W = .ok (.value (.tuple #[.int .u64 (lim (wmod (2 * r + bit)) k), .int .u64 (dcA r bit (k + 1))])) W := fun W => by
    have h := run_addc (lim r k) (lim r k) (dcA r bit k) uR uR hd W
    rwa [e1, e2] at h
   have uT := lim_u64 (wmod (2 * r + bit)) k
   have e3 : (if lim (wmod (2 * r + bit)) k < lim b k + sbA (wmod (2 * r + bit)) b k then (1 : Int) else 0) = sbA (wmod (2 * r + bit)) b (k + 1) := rfl
   have S1 : ∀ W, (callFunc 139 #[.int .u64 (lim (wmod (2 * r + bit)) k), .int .u64 (lim b k), .int .u64 (sbA (wmod (2 * r + bit)) b k)]).run Tryz.prog W = .ok (.value (.tuple #[.int .u64 ((lim (wmod (2 * r + bit)) k - lim b k - sbA (wmod (2 * r + bit)) b k) % 18446744073709551616), .int .u64 (sbA (wmod (2 * r + bit)) b (k + 1))])) W := fun W => by
    have h := run_subc (lim (wmod (2 * r + bit)) k) (lim b k) (sbA (wmod (2 * r + bit)) b k) uT uB hs W
    rwa [e3] at h
   have HK := Lib.hid hlt
   have HAR := Lib.hid aR
   have HAB := Lib.hid aB
   have HG := Lib.hid G
   have hmx : Tryz.prog.follows .mixedOrders = true := by kernel_rfl
   have r1 : ∀ x : Ext wr, x.w.cell? ⟨br, k, none⟩ = some (.int .u64 (lim r k)) := fun x => (x.cell (p := ⟨br, k, none⟩) HAR.out.lt).trans cR
   clear hk hlt hd hs uR uB uT hdl e1 e2 e3 aR aB G
   generalize hRk : lim r k = rk at *
   generalize hTk : lim (wmod (2 * r + bit)) k = tk at *
   generalize hBk : lim b k = bk at *
   generalize hck : dcA r bit k = ck at *
   generalize hsk : sbA (wmod (2 * r + bit)) b k = sk at *
   generalize hck1 : dcA r bit (k + 1) = ck1 at *
   generalize hsk1 : sbA (wmod (2 * r + bit)) b (k + 1) = sk1 at *
   have HT := Lib.hid hTk
   have HBK := Lib.hid hBk
   have HC1 := Lib.hid hck1
   have HS1 := Lib.hid hsk1
   clear hRk hTk hBk hck hsk hck1 hsk1 cR cB
   go_wp2
   refine wp_region_quietR (C := Grows wr) (by kernel_rfl) (by kernel_rfl) (grows_refl wr) ?_
   repeat (go_big_quiet_step (fail))
   refine wpQuiet_nil ?_
   rintro _ ⟨x, rfl⟩
   have aR := HAR.out.later' x.below
   have aB := HAB.out.later' x.below
   have G := grown_ext HG.out x.below
   clear r1 HAR HAB HG
   generalize x.w = w1 at *
   have fR := aR.frozen k
   have cR := aR.cell HK.out
   rw [if_neg (by omega)] at cR
   have HAR := Lib.hid aR
   have HAB := Lib.hid aB
   have HG := Lib.hid G
   have r1 : ∀ x : Ext w1, x.w.cell? ⟨br, k, none⟩ = some (.int .u64 (lim r k)) := fun x => (x.cell (p := ⟨br, k, none⟩) HAR.out.lt).trans cR
   have f1 : ∀ x : Ext w1, x.w.frozen? ⟨br, k, none⟩ = false := fun x => (x.frozen (p := ⟨br, k, none⟩) HAR.out.lt).trans fR
   clear aR aB G fR cR
   go_wp2
   refine wp_region_mix (C := Grows w1) [some true, some true, some true, some true, some true, some true, some true, some true, some false, some true, some true, none, none] hmx (by kernel_rfl) (by kernel_rfl) (grows_refl w1) ?_
   simp only [headOf, tailOf]
   repeat (go_big_quiet_step (fail))
   refine wpQuiet_nil ?_
   rintro _ ⟨x, rfl⟩
   have aR := (HAR.out.later' x.below).set HK.out tk
   have aB := (HAB.out.later' x.below).other (p := ⟨br, k, none⟩) hne.symm (.int .u64 tk)
   have G := grown_set (grown_ext HG.out x.below) (p := ⟨br, k, none⟩) (.inl rfl) (.int .u64 tk)
   clear HAR HAB HG A1
   go_wp2
   rw [calmPost_normal]
   clear f1 r1
   obtain ⟨w2, hw2⟩ : ∃ w2, x.w.setCell ⟨br, k, none⟩ (.int .u64 tk) = w2 := ⟨_, rfl⟩
   rw [hw2] at aR aB G ⊢
   clear hw2
   have cR := aR.cell HK.out
   rw [if_pos rfl] at cR
   have cB := aB.cell HK.out
   rw [HBK.out] at cB
   have HAR := Lib.hid aR
   have HAB := Lib.hid aB
   have HG := Lib.hid G
   have r1 : ∀ x : Ext w2, x.w.cell? ⟨br, k, none⟩ = some (.int .u64 tk) := fun x => (x.cell (p := ⟨br, k, none⟩) HAR.out.lt).trans cR
   have r2 : ∀ x : Ext w2, x.w.cell? ⟨bb, k, none⟩ = some (.int .u64 bk) := fun x => (x.cell (p := ⟨bb, k, none⟩) HAB.out.lt).trans cB
   clear aR aB G cR cB
   go_wp2
   refine wp_region_quietR (C := Grows w2) (by kernel_rfl) (by kernel_rfl) (grows_refl w2) ?_
   repeat (go_big_quiet_step (fail))
   refine wpQuiet_nil ?_
   rintro _ ⟨x, rfl⟩
   have N1 := Lib.hid (HAR.out.later' x.below)
   have N2 := Lib.hid (grown_ext HG.out x.below)
   go_wp2
   go_roundw
   case rel =>
    refine ⟨k + 1, HK.out, by simp, by rw [HC1.out], by rw [HS1.out], ?_, N2.out⟩
    have e : (fun j => if j < k + 1 then lim (wmod (2 * r + bit)) j else lim r j) = (fun j => if j = k then tk else if j < k then lim (wmod (2 * r + bit)) j else lim r j) := by
     funext j
     by_cases h1 : j = k
     ·rw [if_pos h1, if_pos (by omega), h1, HT.out]
     ·rw [if_neg h1]
      by_cases h2 : j < k
      ·rw [if_pos h2, if_pos (by omega)]
      ·rw [if_neg h2, if_neg (by omega)]
    rw [e]
    exact N1.out
   case measure => have := HK.out; simp [intOf]; omega
  ·obtain rfl : k = 4 := by omega
   have aR := aR.same4 (m' := lim (wmod (2 * r + bit))) rfl rfl rfl rfl
   have HG := Lib.hid G
   have HAR := Lib.hid aR
   have HAB := Lib.hid aB
   have hd4 := HDB.out 4
   have hs4 := HSB.out 4
   unfold Bit at hd4 hs4
   obtain ⟨hd0, hd1⟩ := hd4
   obtain ⟨hs0, hs1⟩ := hs4
   clear hk hlt aR aB G
   by_cases hle : b ≤ 2 * r + bit
   ·obtain ⟨q1, q2⟩ := HLONG.out hle
    have HQ := Lib.hid q1
    have HLE := Lib.hid hle
    generalize dcA r bit 4 = c4 at *
    generalize sbA (wmod (2 * r + bit)) b 4 = s4 at *
    clear q1 hle
    obtain ⟨wo, rfl⟩ : ∃ wo : World, wo = wr := ⟨_, rfl⟩
    go_wp2
    go_loopw [8, 52] (fun sh q wr => ∃ k : Nat, k ≤ 4 ∧ q = .int .i64 (k : Int) ∧ sh = .int .u64 (sbA (wmod (2 * r + bit)) b k) ∧ Arr4 wr br 24 (fun j => if j < k then lim (bdR r b bit) j else lim (wmod (2 * r + bit)) j) ∧ Arr4 wr bb 24 (lim b) ∧ w.grownBy wr (some br)) (fun _ q _ => 4 - (intOf q).toNat)
    case atStart => exact ⟨0, by omega, rfl, rfl, HAR.out.same4 rfl rfl rfl rfl, HAB.out, HG.out⟩
    case round =>
     clear HAR HAB HG
     obtain ⟨k, hk, rfl, rfl, aR, aB, G⟩ := hrel
     by_cases hlt : k < 4
     ·have hkI : (k : Int) < 4 := by omega
      have hk0 : (0 : Int) ≤ (k : Int) := by omega
      have cR := aR.cell hlt
      rw [if_neg (by omega)] at cR
      have cB := aB.cell hlt
      have fR := aR.frozen k
      have hs := HSB.out k
      have uB := lim_u64 b k
      have uT := lim_u64 (wmod (2 * r + bit)) k
      have hsl := HSUB.out k hlt
      rw [HQ.out] at hsl
      have e1 : (lim (wmod (2 * r + bit)) k - lim b k - sbA (wmod (2 * r + bit)) b k) % 18446744073709551616 = lim (bdR r b bit) k := hsl
      have e3 : (if lim (wmod (2 * r + bit)) k < lim b k + sbA (wmod (2 * r + bit)) b k then (1 : Int) else 0) = sbA (wmod (2 * r + bit)) b (k + 1) := rfl
      have S1 : ∀ W, (callFunc 139 #[.int .u64 (lim (wmod (2 * r + bit)) k), .int .u64 (lim b k), .int .u64 (sbA (wmod (2 * r + bit)) b k)]).run Tryz.prog W = .ok (.value (.tuple #[.int .u64 (lim (bdR r b bit) k), .int .u64 (sbA (wmod (2 * r + bit)) b (k + 1))])) W := fun W => by
       have h := run_subc (lim (wmod (2 * r + bit)) k) (lim b k) (sbA (wmod (2 * r + bit)) b k) uT uB hs W
       rwa [e1, e3] at h
      have HK := Lib.hid hlt
      have HAR := Lib.hid aR
      have HAB := Lib.hid aB
      have HG := Lib.hid G
      have hmx : Tryz.prog.follows .mixedOrders = true := by kernel_rfl
      have r1 : ∀ x : Ext wr, x.w.cell? ⟨br, k, none⟩ = some (.int .u64 (lim (wmod (2 * r + bit)) k)) := fun x => (x.cell (p := ⟨br, k, none⟩) HAR.out.lt).trans cR
      clear hk hlt hs uB uT hsl e1 e3 aR aB G cR cB fR
      generalize hTk : lim (wmod (2 * r + bit)) k = tk at *
      generalize hBk : lim b k = bk at *
      generalize hsk : sbA (wmod (2 * r + bit)) b k = sk at *
      generalize hsk1 : sbA (wmod (2 * r + bit)) b (k + 1) = sk1 at *
      generalize hDk : lim (bdR r b bit) k = dk at *
      have HT := Lib.hid hTk
      have HBK := Lib.hid hBk
      have HS1 := Lib.hid hsk1
      have HD := Lib.hid hDk
      clear hTk hBk hsk hsk1 hDk
      go_wp2
      refine wp_region_quietR (C := Grows wr) (by kernel_rfl) (by kernel_rfl) (grows_refl wr) ?_
      repeat (go_big_quiet_step (fail))
      refine wpQuiet_nil ?_
      rintro _ ⟨x, rfl⟩
      have aR := HAR.out.later' x.below
      have aB := HAB.out.later' x.below
      have G := grown_ext HG.out x.below
      clear r1 HAR HAB HG
      generalize x.w = w1 at *
      have fR := aR.frozen k
      have cR := aR.cell HK.out
      rw [if_neg (by omega), HT.out] at cR
      have cB := aB.cell HK.out
      rw [HBK.out] at cB
      have HAR := Lib.hid aR
      have HAB := Lib.hid aB
      have HG := Lib.hid G
      have r1 : ∀ x : Ext w1, x.w.cell? ⟨br, k, none⟩ = some (.int .u64 tk) := fun x => (x.cell (p := ⟨br, k, none⟩) HAR.out.lt).trans cR
      have f1 : ∀ x : Ext w1, x.w.frozen? ⟨br, k, none⟩ = false := fun x => (x.frozen (p := ⟨br, k, none⟩) HAR.out.lt).trans fR
      have r2 : ∀ x : Ext w1, x.w.cell? ⟨bb, k, none⟩ = some (.int .u64 bk) := fun x => (x.cell (p := ⟨bb, k, none⟩) HAB.out.lt).trans cB
      clear aR aB G fR cR cB
      go_wp2
      refine wp_region_mix (C := Grows w1) [some true, some true, some true, some true, some true, some true, some true, some true, some true, some true, some true, some true, some false, some true, some true, none, none] hmx (by kernel_rfl) (by kernel_rfl) (grows_refl w1) ?_
      simp only [headOf, tailOf]
      repeat (go_big_quiet_step (fail))
      refine wpQuiet_nil ?_
      rintro _ ⟨x, rfl⟩
      have N1 := Lib.hid ((HAR.out.later' x.below).set HK.out dk)
      have N2 := Lib.hid ((HAB.out.later' x.below).other (p := ⟨br, k, none⟩) hne.symm (.int .u64 dk))
      have N3 := Lib.hid (grown_set (grown_ext HG.out x.below) (p := ⟨br, k, none⟩) (.inl rfl) (.int .u64 dk))
      clear r2 HAR HAB HG
      go_wp2
      rw [calmPost_normal]
      clear f1 r1
      go_wp2
      go_roundw
      case rel =>
       refine ⟨k + 1, HK.out, by simp, by rw [HS1.out], ?_, N2.out, N3.out⟩
       have e : (fun j => if j < k + 1 then lim (bdR r b bit) j else lim (wmod (2 * r + bit)) j) = (fun j => if j = k then dk else if j < k then lim (bdR r b bit) j else lim (wmod (2 * r + bit)) j) := by
        funext j
        by_cases h1 : j = k
        ·rw [if_pos h1, if_pos (by omega), h1, HD.out]
        ·rw [if_neg h1]
         by_cases h2 : j < k
         ·rw [if_pos h2, if_pos (by omega)]
         ·rw [if_neg h2, if_neg (by omega)]
       rw [e]
       exact N1.out
      case measure => have := HK.out; simp [intOf]; omega
     ·obtain rfl : k = 4 := by omega
      have N1 := Lib.hid (aR.same4 (m' := lim (bdR r b bit)) rfl rfl rfl rfl)
      have N2 := Lib.hid G
      clear hk hlt aR aB G
      go_wp2
      go_ret
      exact ⟨by rw [decide_eq_true HLE.out]; rfl, N1.out, N2.out⟩
   ·obtain ⟨q1, q2⟩ := HSHORT.out hle
    have HQ := Lib.hid q1
    have HLE := Lib.hid hle
    generalize dcA r bit 4 = c4 at *
    generalize sbA (wmod (2 * r + bit)) b 4 = s4 at *
    clear q1 hle
    go_wp2
    go_ret
    exact ⟨by rw [decide_eq_false HLE.out]; rfl, by rw [← HQ.out]; exact HAR.out, HG.out⟩
def limN (N j : Nat) : Nat := N / 18446744073709551616 ^ j % 18446744073709551616
theorem limN_lt (N j : Nat) : limN N j < 18446744073709551616 := Nat.mod_lt _ (by decide)
theorem limN_lim (N j : Nat) (hj : j < 4) : lim N j = (limN N j : Int) := by
 rcases (show j = 0 ∨ j = 1 ∨ j = 2 ∨ j = 3 by omega) with rfl | rfl | rfl | rfl
 ·show ((N % 18446744073709551616 : Nat) : Int) = _
  unfold limN
  rw [Nat.pow_zero, Nat.div_one]
 ·rfl
 ·rfl
 ·rfl
theorem limN_zero (N j k : Nat) (hN : N < 18446744073709551616 ^ k) (hj : k ≤ j) : limN N j = 0 := by
 unfold limN
 rw [Nat.div_eq_of_lt (Nat.lt_of_lt_of_le hN (Nat.pow_le_pow_right (by decide) hj))]
theorem or_apart (a b r : Nat) (ha : a < 2 ^ r) : Nat.lor a (b * 2 ^ r) = a + b * 2 ^ r := by
 have h := Nat.two_pow_add_eq_or_of_lt ha b
 rw [Nat.mul_comm b, Nat.add_comm a]
 show a ||| 2 ^ r * b = 2 ^ r * b + a
 rw [Nat.or_comm]
 exact h.symm
theorem limN_shift (N f r j : Nat) (hr : r < 64) : Nat.lor (limN N (f + j) / 2 ^ r) (limN N (f + j + 1) * 2 ^ (64 - r) % 18446744073709551616) = limN (N / 2 ^ (64 * f + r)) j := by
 have h64 : (18446744073709551616 : Nat) = 2 ^ 64 := by decide
 have hsplit : (2 : Nat) ^ 64 = 2 ^ r * 2 ^ (64 - r) := by rw [← Nat.pow_add]; congr 1; omega
 unfold limN
 have e1 : N / 18446744073709551616 ^ (f + j + 1) = N / 18446744073709551616 ^ (f + j) / 18446744073709551616 := by rw [Nat.pow_succ, Nat.div_div_eq_div_mul]
 have e2 : N / 2 ^ (64 * f + r) / 18446744073709551616 ^ j = N / 18446744073709551616 ^ (f + j) / 2 ^ r := by
  rw [Nat.div_div_eq_div_mul, Nat.div_div_eq_div_mul]
  congr 1
  rw [h64, ← Nat.pow_mul, ← Nat.pow_mul, ← Nat.pow_add, ← Nat.pow_add]
  congr 1
  rw [Nat.mul_add]
  omega
 rw [e1, e2]
 generalize N / 18446744073709551616 ^ (f + j) = M
 rw [h64, hsplit]
 have hA : 0 < 2 ^ r := Nat.pow_pos (by decide)
 have hB : 0 < 2 ^ (64 - r) := Nat.pow_pos (by decide)
 have e3 : M / (2 ^ r * 2 ^ (64 - r)) % (2 ^ r * 2 ^ (64 - r)) * 2 ^ (64 - r) % (2 ^ r * 2 ^ (64 - r)) = M / (2 ^ r * 2 ^ (64 - r)) % 2 ^ r * 2 ^ (64 - r) := by
  rw [Nat.mul_mod_mul_right, Nat.mod_mul_right_mod]
 have e4 : M % (2 ^ r * 2 ^ (64 - r)) / 2 ^ r = M / 2 ^ r % 2 ^ (64 - r) := Nat.mod_mul_right_div_self M (2 ^ r) (2 ^ (64 - r))
 rw [e3, e4, or_apart _ _ _ (Nat.mod_lt _ hB)]
 have e5 : M / 2 ^ r % (2 ^ r * 2 ^ (64 - r)) = M / 2 ^ r % 2 ^ (64 - r) + 2 ^ (64 - r) * (M / 2 ^ r / 2 ^ (64 - r) % 2 ^ r) := by
  rw [Nat.mul_comm (2 ^ r), Nat.mod_mul]
 rw [e5, Nat.div_div_eq_div_mul, Nat.mul_comm (M / (2 ^ r * 2 ^ (64 - r)) % 2 ^ r)]
theorem limN_wmod (M j : Nat) (hj : j < 4) : limN (wmod M) j = limN M j := by
 unfold limN wmod
 rw [show (115792089237316195423570985008687907853269984665640564039457584007913129639936 : Nat) = 18446744073709551616 ^ j * 18446744073709551616 ^ (4 - j) by rw [← Nat.pow_add, show j + (4 - j) = 4 by omega]]
 rw [Nat.mod_mul_right_div_self]
 rw [show 18446744073709551616 ^ (4 - j) = 18446744073709551616 * 18446744073709551616 ^ (3 - j) by rw [← Nat.pow_succ', show 4 - j = (3 - j) + 1 by omega], Nat.mod_mul_right_mod]
theorem above4_any (B N place : Nat) (hN : N < 18446744073709551616 ^ 4) (hpl : place ≤ 320) (w : World) (h : Limbs w B 129 4 (fun j => (limN N j : Int))) :
  Calls Tryz.prog 162 #[.pointer (some ⟨B, 0, none⟩), .int .i64 (place : Int)] w fun e w' => e = .returned (wv (wmod (N / 2 ^ place))) ∧ Below w.heap.size w w' := by
 obtain ⟨f, r, rfl, hr⟩ : ∃ f r, place = 64 * f + r ∧ r < 64 := ⟨place / 64, place % 64, by omega, by omega⟩
 have hV : Hid (∀ j, j < 4 → Nat.lor (limN N (f + j) / 2 ^ r) (limN N (f + j + 1) * 2 ^ (64 - r) % 18446744073709551616) = limN (wmod (N / 2 ^ (64 * f + r))) j) := fun j hj => by rw [limN_wmod _ j hj]; exact limN_shift N f r j hr
 obtain ⟨V, hVe⟩ : ∃ V, V = wmod (N / 2 ^ (64 * f + r)) := ⟨_, rfl⟩
 rw [← hVe] at hV ⊢
 clear hVe
 have HP : Hid (∀ (W : World) (p : Nat), p < 1152921504606846976 → Limbs W B 129 4 (fun j => (limN N j : Int)) → Calls Tryz.prog 178 #[.pointer (some ⟨B, 0, none⟩), .int .i64 (p : Int)] W fun e w' => e = .returned (.int .u64 (limN N p : Int)) ∧ W = w') := fun W p hp hL => by
  have h := part4_any B p (fun j => (limN N j : Int)) hp W hL
  have e : (if p < 4 then (limN N p : Int) else 0) = (limN N p : Int) := by
   by_cases hp4 : p < 4
   ·rw [if_pos hp4]
   ·rw [if_neg hp4, limN_zero N p 4 hN (by omega)]; rfl
  rw [e] at h
  exact h
 have q1 : ((64 * f + r : Nat) : Int).tdiv 64 = (f : Int) := by rw [Int.tdiv_eq_ediv_of_nonneg (by omega)]; omega
 have q2 : ((64 * f + r : Nat) : Int).tmod 64 = (r : Int) := by rw [Int.tmod_eq_emod_of_nonneg (by omega)]; omega
 have hp0 : (0 : Int) ≤ ((64 * f + r : Nat) : Int) := by omega
 have hp1 : ((64 * f + r : Nat) : Int) ≤ 320 := by omega
 have hf0 : (0 : Int) ≤ (f : Int) := by omega
 have hf1 : (f : Int) ≤ 5 := by omega
 have hr0 : (0 : Int) ≤ (r : Int) := by omega
 have hr1 : (r : Int) < 64 := by omega
 have HR := Lib.hid hr
 have HF : Hid (f ≤ 5) := by show f ≤ 5; omega
 have A1 := (Arr4.mk0' w 24).alloc (.cells #[.int .u64 0, .int .u64 0, .int .u64 0, .int .u64 0] 24)
 have A2 := Arr4.mk0' (w.alloc (.cells #[.int .u64 0, .int .u64 0, .int .u64 0, .int .u64 0] 24)) 24
 have X0 := (h.alloc (.cells #[.int .u64 0, .int .u64 0, .int .u64 0, .int .u64 0] 24)).alloc (.cells #[.int .u64 0, .int .u64 0, .int .u64 0, .int .u64 0] 24)
 have B0 := ((Below.refl _ w).alloc (Nat.le_refl _) (.cells #[.int .u64 0, .int .u64 0, .int .u64 0, .int .u64 0] 24)).alloc (by simp) (.cells #[.int .u64 0, .int .u64 0, .int .u64 0, .int .u64 0] 24)
 have hBl := h.lt
 rw [World.size_alloc] at A2
 clear h hpl hN hr
 generalize ((64 * f + r : Nat) : Int) = pl at *
 go_enter Tryz.func162, Tryz.ntmps162
 go_wp2
 obtain ⟨W0, hW0⟩ : ∃ W0, (w.alloc (.cells #[.int .u64 0, .int .u64 0, .int .u64 0, .int .u64 0] 24)).alloc (.cells #[.int .u64 0, .int .u64 0, .int .u64 0, .int .u64 0] 24) = W0 := ⟨_, rfl⟩
 rw [hW0] at A1 A2 X0 B0 ⊢
 clear hW0
 go_loopw [14] (fun q wr => ∃ i : Nat, i ≤ 4 ∧ q = .int .i64 (i : Int) ∧ Arr4 wr w.heap.size 24 (fun _ => 0) ∧ Arr4 wr (w.heap.size + 1) 24 (fun j => if j < i then (limN V j : Int) else 0) ∧ Limbs wr B 129 4 (fun j => (limN N j : Int)) ∧ Below w.heap.size w wr) (fun q _ => 4 - (intOf q).toNat)
 case atStart => exact ⟨0, by omega, rfl, A1, A2.same4 rfl rfl rfl rfl, X0, B0⟩
 case round =>
  obtain ⟨i, hi, rfl, a1, a2, xx, hB⟩ := hrel
  clear A1 A2 X0 B0
  by_cases hlt : i < 4
  ·have hiI : (i : Int) < 4 := by omega
   have hi0 : (0 : Int) ≤ (i : Int) := by omega
   have hv := hV.out i hlt
   have HA1 := Lib.hid a1
   have HA2 := Lib.hid a2
   have HX := Lib.hid xx
   have HB := Lib.hid hB
   have HI := Lib.hid hlt
   have hmx : Tryz.prog.follows .mixedOrders = true := by kernel_rfl
   have c2 := a2.cell hlt
   rw [if_neg (by omega)] at c2
   have f2 := a2.frozen i
   have ff := HF.out
   have P1 : ∀ x : Ext wr, Calls Tryz.prog 178 #[.pointer (some ⟨B, 0, none⟩), .int .i64 ((f : Int) + (i : Int))] x.w fun e w'' => e = .returned (.int .u64 (limN N (f + i) : Int)) ∧ ∃ y : Ext wr, w'' = y.w := fun x => by
    have h := HP.out x.w (f + i) (by omega) (HX.out.later x.below)
    rw [show ((f + i : Nat) : Int) = (f : Int) + (i : Int) by omega] at h
    exact h.mono fun e w' ⟨he, hw⟩ => ⟨he, x, hw.symm⟩
   have P2 : ∀ x : Ext wr, Calls Tryz.prog 178 #[.pointer (some ⟨B, 0, none⟩), .int .i64 ((f : Int) + (i : Int) + 1)] x.w fun e w'' => e = .returned (.int .u64 (limN N (f + i + 1) : Int)) ∧ ∃ y : Ext wr, w'' = y.w := fun x => by
    have h := HP.out x.w (f + i + 1) (by omega) (HX.out.later x.below)
    rw [show ((f + i + 1 : Nat) : Int) = (f : Int) + (i : Int) + 1 by omega] at h
    exact h.mono fun e w' ⟨he, hw⟩ => ⟨he, x, hw.symm⟩
   have r2 : ∀ x : Ext wr, x.w.cell? ⟨w.heap.size + 1, i, none⟩ = some (.int .u64 0) := fun x => (x.cell (p := ⟨_, i, none⟩) HA2.out.lt).trans c2
   have g2 : ∀ x : Ext wr, x.w.frozen? ⟨w.heap.size + 1, i, none⟩ = false := fun x => (x.frozen (p := ⟨_, i, none⟩) HA2.out.lt).trans f2
   have l1 := limN_lt N (f + i)
   have l2 := limN_lt N (f + i + 1)
   have l3 := limN_lt V i
   generalize limN N (f + i) = u1 at *
   generalize limN N (f + i + 1) = u2 at *
   generalize hue : limN V i = u3 at *
   have HU := Lib.hid hue
   have t1 : ((64 : Int) - (r : Int)).toNat = 64 - r := by omega
   have t2 : (0 : Int) ≤ (64 : Int) - (r : Int) := by omega
   have t3 : (64 : Int) - (r : Int) ≤ 64 := by omega
   have u10 : (0 : Int) ≤ (u1 : Int) := by omega
   have u11 : (u1 : Int) < 18446744073709551616 := by omega
   have u20 : (0 : Int) ≤ (u2 : Int) := by omega
   have u21 : (u2 : Int) < 18446744073709551616 := by omega
   have hor : bits .or .u64 ((u1 : Int) / 2 ^ r) (IntKind.u64.wrap ((u2 : Int) * 2 ^ (64 - r))) = (u3 : Int) := by
    have e1 : (u1 : Int) / 2 ^ r = ((u1 / 2 ^ r : Nat) : Int) := by rw [Int.natCast_ediv, Int.natCast_pow]; rfl
    have e2 : IntKind.u64.wrap ((u2 : Int) * 2 ^ (64 - r)) = ((u2 * 2 ^ (64 - r) % 18446744073709551616 : Nat) : Int) := by rw [IntKind.wrap_u64, Int.natCast_emod, Int.natCast_mul, Int.natCast_pow]; rfl
    rw [e1, e2]
    have b1 : u1 / 2 ^ r < 2 ^ 64 := Nat.lt_of_le_of_lt (Nat.div_le_self _ _) l1
    have b2 : u2 * 2 ^ (64 - r) % 18446744073709551616 < 2 ^ 64 := Nat.mod_lt _ (by decide)
    rw [← hv]
    generalize u1 / 2 ^ r = a at *
    generalize u2 * 2 ^ (64 - r) % 18446744073709551616 = b at *
    exact u64_or_nat a b b1 b2
   clear hi hlt a1 a2 xx hB c2 f2 ff l1 l2 l3 hue hv
   go_wp2
   refine wp_region_mix (C := Grows wr) [some true, some true, some true, some true, some true, some true, some true, some true, some true, some true, some true, some true, some true, some true, some true, some true, some true, some true, some true, none] hmx (by kernel_rfl) (by kernel_rfl) (grows_refl wr) ?_
   simp only [headOf, tailOf]
   repeat (go_big_quiet_step (first | (with_reducible exact P1 _) | (with_reducible exact P2 _)))
   refine wpQuiet_nil ?_
   rintro _ ⟨x, rfl⟩
   have N1 := Lib.hid ((HA1.out.later' x.below).other (p := ⟨w.heap.size + 1, i, none⟩) (by simp) (.int .u64 (u3 : Int)))
   have N2 := Lib.hid ((HA2.out.later' x.below).set HI.out (u3 : Int))
   have N3 := Lib.hid ((HX.out.later x.below).other (p := ⟨w.heap.size + 1, i, none⟩) (show B ≠ w.heap.size + 1 by omega) (.int .u64 (u3 : Int)))
   have N4 := Lib.hid ((HB.out.trans (x.below.mono HB.out.size)).setCell (p := ⟨w.heap.size + 1, i, none⟩) (by simp) (.int .u64 (u3 : Int)))
   go_wp2
   rw [calmPost_normal]
   go_wp2
   go_roundw
   case rel =>
    refine ⟨i + 1, HI.out, by simp, N1.out, ?_, N3.out, N4.out⟩
    have e : (fun j => if j < i + 1 then (limN V j : Int) else 0) = (fun j => if j = i then (u3 : Int) else if j < i then (limN V j : Int) else 0) := by
     funext j
     by_cases h1 : j = i
     ·rw [if_pos h1, if_pos (by omega), h1, HU.out]
     ·rw [if_neg h1]
      by_cases h2 : j < i
      ·rw [if_pos h2, if_pos (by omega)]
      ·rw [if_neg h2, if_neg (by omega)]
    rw [e]
    exact N2.out
   case measure => have := HI.out; simp [intOf]; omega
  ·obtain rfl : i = 4 := by omega
   have a2 := a2.same4 (m' := lim V) (limN_lim V 0 (by omega)).symm (limN_lim V 1 (by omega)).symm (limN_lim V 2 (by omega)).symm (limN_lim V 3 (by omega)).symm
   have HA1 := Lib.hid a1
   have HB := Lib.hid hB
   have c0 := a2.cell (j := 0) (by omega)
   have c1 := a2.cell (j := 1) (by omega)
   have c2 := a2.cell (j := 2) (by omega)
   have c3 := a2.cell (j := 3) (by omega)
   have f0 := a1.frozen 0
   have f1 := a1.frozen 1
   have f2 := a1.frozen 2
   have f3 := a1.frozen 3
   have d0 := a1.cell (j := 0) (by omega)
   have d1 := a1.cell (j := 1) (by omega)
   have d2 := a1.cell (j := 2) (by omega)
   have d3 := a1.cell (j := 3) (by omega)
   clear hi hlt a1 a2 xx hB HP hV
   go_wp2
   refine bodyPost_ret (results_word rfl rfl (HA1.out.store (lim V))) rfl ⟨rfl, ?_⟩
   exact (((HB.out.setCell (p := ⟨w.heap.size, 0, none⟩) (by simp) _).setCell (p := ⟨w.heap.size, 1, none⟩) (by simp) _).setCell (p := ⟨w.heap.size, 2, none⟩) (by simp) _).setCell (p := ⟨w.heap.size, 3, none⟩) (by simp) _
theorem above8_any (B N place : Nat) (hN : N < 18446744073709551616 ^ 8) (hpl : place ≤ 576) (w : World) (h : Limbs w B 143 8 (fun j => (limN N j : Int))) :
  Calls Tryz.prog 172 #[.pointer (some ⟨B, 0, none⟩), .int .i64 (place : Int)] w fun e w' => e = .returned (wv (wmod (N / 2 ^ place))) ∧ Below w.heap.size w w' := by
 obtain ⟨f, r, rfl, hr⟩ : ∃ f r, place = 64 * f + r ∧ r < 64 := ⟨place / 64, place % 64, by omega, by omega⟩
 have hV : Hid (∀ j, j < 4 → Nat.lor (limN N (f + j) / 2 ^ r) (limN N (f + j + 1) * 2 ^ (64 - r) % 18446744073709551616) = limN (wmod (N / 2 ^ (64 * f + r))) j) := fun j hj => by rw [limN_wmod _ j hj]; exact limN_shift N f r j hr
 obtain ⟨V, hVe⟩ : ∃ V, V = wmod (N / 2 ^ (64 * f + r)) := ⟨_, rfl⟩
 rw [← hVe] at hV ⊢
 clear hVe
 have HP : Hid (∀ (W : World) (p : Nat), p < 1152921504606846976 → Limbs W B 143 8 (fun j => (limN N j : Int)) → Calls Tryz.prog 182 #[.pointer (some ⟨B, 0, none⟩), .int .i64 (p : Int)] W fun e w' => e = .returned (.int .u64 (limN N p : Int)) ∧ W = w') := fun W p hp hL => by
  have h := part8_any B p (fun j => (limN N j : Int)) hp W hL
  have e : (if p < 8 then (limN N p : Int) else 0) = (limN N p : Int) := by
   by_cases hp4 : p < 8
   ·rw [if_pos hp4]
   ·rw [if_neg hp4, limN_zero N p 8 hN (by omega)]; rfl
  rw [e] at h
  exact h
 have q1 : ((64 * f + r : Nat) : Int).tdiv 64 = (f : Int) := by rw [Int.tdiv_eq_ediv_of_nonneg (by omega)]; omega
 have q2 : ((64 * f + r : Nat) : Int).tmod 64 = (r : Int) := by rw [Int.tmod_eq_emod_of_nonneg (by omega)]; omega
 have hp0 : (0 : Int) ≤ ((64 * f + r : Nat) : Int) := by omega
 have hp1 : ((64 * f + r : Nat) : Int) ≤ 576 := by omega
 have hf0 : (0 : Int) ≤ (f : Int) := by omega
 have hf1 : (f : Int) ≤ 9 := by omega
 have hr0 : (0 : Int) ≤ (r : Int) := by omega
 have hr1 : (r : Int) < 64 := by omega
 have HR := Lib.hid hr
 have HF : Hid (f ≤ 9) := by show f ≤ 9; omega
 have A1 := (Arr4.mk0' w 24).alloc (.cells #[.int .u64 0, .int .u64 0, .int .u64 0, .int .u64 0] 24)
 have A2 := Arr4.mk0' (w.alloc (.cells #[.int .u64 0, .int .u64 0, .int .u64 0, .int .u64 0] 24)) 24
 have X0 := (h.alloc (.cells #[.int .u64 0, .int .u64 0, .int .u64 0, .int .u64 0] 24)).alloc (.cells #[.int .u64 0, .int .u64 0, .int .u64 0, .int .u64 0] 24)
 have B0 := ((Below.refl _ w).alloc (Nat.le_refl _) (.cells #[.int .u64 0, .int .u64 0, .int .u64 0, .int .u64 0] 24)).alloc (by simp) (.cells #[.int .u64 0, .int .u64 0, .int .u64 0, .int .u64 0] 24)
 have hBl := h.lt
 rw [World.size_alloc] at A2
 clear h hpl hN hr
 generalize ((64 * f + r : Nat) : Int) = pl at *
 go_enter Tryz.func172, Tryz.ntmps172
 go_wp2
 obtain ⟨W0, hW0⟩ : ∃ W0, (w.alloc (.cells #[.int .u64 0, .int .u64 0, .int .u64 0, .int .u64 0] 24)).alloc (.cells #[.int .u64 0, .int .u64 0, .int .u64 0, .int .u64 0] 24) = W0 := ⟨_, rfl⟩
 rw [hW0] at A1 A2 X0 B0 ⊢
 clear hW0
 go_loopw [14] (fun q wr => ∃ i : Nat, i ≤ 4 ∧ q = .int .i64 (i : Int) ∧ Arr4 wr w.heap.size 24 (fun _ => 0) ∧ Arr4 wr (w.heap.size + 1) 24 (fun j => if j < i then (limN V j : Int) else 0) ∧ Limbs wr B 143 8 (fun j => (limN N j : Int)) ∧ Below w.heap.size w wr) (fun q _ => 4 - (intOf q).toNat)
 case atStart => exact ⟨0, by omega, rfl, A1, A2.same4 rfl rfl rfl rfl, X0, B0⟩
 case round =>
  obtain ⟨i, hi, rfl, a1, a2, xx, hB⟩ := hrel
  clear A1 A2 X0 B0
  by_cases hlt : i < 4
  ·have hiI : (i : Int) < 4 := by omega
   have hi0 : (0 : Int) ≤ (i : Int) := by omega
   have hv := hV.out i hlt
   have HA1 := Lib.hid a1
   have HA2 := Lib.hid a2
   have HX := Lib.hid xx
   have HB := Lib.hid hB
   have HI := Lib.hid hlt
   have hmx : Tryz.prog.follows .mixedOrders = true := by kernel_rfl
   have c2 := a2.cell hlt
   rw [if_neg (by omega)] at c2
   have f2 := a2.frozen i
   have ff := HF.out
   have P1 : ∀ x : Ext wr, Calls Tryz.prog 182 #[.pointer (some ⟨B, 0, none⟩), .int .i64 ((f : Int) + (i : Int))] x.w fun e w'' => e = .returned (.int .u64 (limN N (f + i) : Int)) ∧ ∃ y : Ext wr, w'' = y.w := fun x => by
    have h := HP.out x.w (f + i) (by omega) (HX.out.later x.below)
    rw [show ((f + i : Nat) : Int) = (f : Int) + (i : Int) by omega] at h
    exact h.mono fun e w' ⟨he, hw⟩ => ⟨he, x, hw.symm⟩
   have P2 : ∀ x : Ext wr, Calls Tryz.prog 182 #[.pointer (some ⟨B, 0, none⟩), .int .i64 ((f : Int) + (i : Int) + 1)] x.w fun e w'' => e = .returned (.int .u64 (limN N (f + i + 1) : Int)) ∧ ∃ y : Ext wr, w'' = y.w := fun x => by
    have h := HP.out x.w (f + i + 1) (by omega) (HX.out.later x.below)
    rw [show ((f + i + 1 : Nat) : Int) = (f : Int) + (i : Int) + 1 by omega] at h
    exact h.mono fun e w' ⟨he, hw⟩ => ⟨he, x, hw.symm⟩
   have r2 : ∀ x : Ext wr, x.w.cell? ⟨w.heap.size + 1, i, none⟩ = some (.int .u64 0) := fun x => (x.cell (p := ⟨_, i, none⟩) HA2.out.lt).trans c2
   have g2 : ∀ x : Ext wr, x.w.frozen? ⟨w.heap.size + 1, i, none⟩ = false := fun x => (x.frozen (p := ⟨_, i, none⟩) HA2.out.lt).trans f2
   have l1 := limN_lt N (f + i)
   have l2 := limN_lt N (f + i + 1)
   have l3 := limN_lt V i
   generalize limN N (f + i) = u1 at *
   generalize limN N (f + i + 1) = u2 at *
   generalize hue : limN V i = u3 at *
   have HU := Lib.hid hue
   have t1 : ((64 : Int) - (r : Int)).toNat = 64 - r := by omega
   have t2 : (0 : Int) ≤ (64 : Int) - (r : Int) := by omega
   have t3 : (64 : Int) - (r : Int) ≤ 64 := by omega
   have u10 : (0 : Int) ≤ (u1 : Int) := by omega
   have u11 : (u1 : Int) < 18446744073709551616 := by omega
   have u20 : (0 : Int) ≤ (u2 : Int) := by omega
   have u21 : (u2 : Int) < 18446744073709551616 := by omega
   have hor : bits .or .u64 ((u1 : Int) / 2 ^ r) (IntKind.u64.wrap ((u2 : Int) * 2 ^ (64 - r))) = (u3 : Int) := by
    have e1 : (u1 : Int) / 2 ^ r = ((u1 / 2 ^ r : Nat) : Int) := by rw [Int.natCast_ediv, Int.natCast_pow]; rfl
    have e2 : IntKind.u64.wrap ((u2 : Int) * 2 ^ (64 - r)) = ((u2 * 2 ^ (64 - r) % 18446744073709551616 : Nat) : Int) := by rw [IntKind.wrap_u64, Int.natCast_emod, Int.natCast_mul, Int.natCast_pow]; rfl
    rw [e1, e2]
    have b1 : u1 / 2 ^ r < 2 ^ 64 := Nat.lt_of_le_of_lt (Nat.div_le_self _ _) l1
    have b2 : u2 * 2 ^ (64 - r) % 18446744073709551616 < 2 ^ 64 := Nat.mod_lt _ (by decide)
    rw [← hv]
    generalize u1 / 2 ^ r = a at *
    generalize u2 * 2 ^ (64 - r) % 18446744073709551616 = b at *
    exact u64_or_nat a b b1 b2
   clear hi hlt a1 a2 xx hB c2 f2 ff l1 l2 l3 hue hv
   go_wp2
   refine wp_region_mix (C := Grows wr) [some true, some true, some true, some true, some true, some true, some true, some true, some true, some true, some true, some true, some true, some true, some true, some true, some true, some true, some true, none] hmx (by kernel_rfl) (by kernel_rfl) (grows_refl wr) ?_
   simp only [headOf, tailOf]
   repeat (go_big_quiet_step (first | (with_reducible exact P1 _) | (with_reducible exact P2 _)))
   refine wpQuiet_nil ?_
   rintro _ ⟨x, rfl⟩
   have N1 := Lib.hid ((HA1.out.later' x.below).other (p := ⟨w.heap.size + 1, i, none⟩) (by simp) (.int .u64 (u3 : Int)))
   have N2 := Lib.hid ((HA2.out.later' x.below).set HI.out (u3 : Int))
   have N3 := Lib.hid ((HX.out.later x.below).other (p := ⟨w.heap.size + 1, i, none⟩) (show B ≠ w.heap.size + 1 by omega) (.int .u64 (u3 : Int)))
   have N4 := Lib.hid ((HB.out.trans (x.below.mono HB.out.size)).setCell (p := ⟨w.heap.size + 1, i, none⟩) (by simp) (.int .u64 (u3 : Int)))
   go_wp2
   rw [calmPost_normal]
   go_wp2
   go_roundw
   case rel =>
    refine ⟨i + 1, HI.out, by simp, N1.out, ?_, N3.out, N4.out⟩
    have e : (fun j => if j < i + 1 then (limN V j : Int) else 0) = (fun j => if j = i then (u3 : Int) else if j < i then (limN V j : Int) else 0) := by
     funext j
     by_cases h1 : j = i
     ·rw [if_pos h1, if_pos (by omega), h1, HU.out]
     ·rw [if_neg h1]
      by_cases h2 : j < i
      ·rw [if_pos h2, if_pos (by omega)]
      ·rw [if_neg h2, if_neg (by omega)]
    rw [e]
    exact N2.out
   case measure => have := HI.out; simp [intOf]; omega
  ·obtain rfl : i = 4 := by omega
   have a2 := a2.same4 (m' := lim V) (limN_lim V 0 (by omega)).symm (limN_lim V 1 (by omega)).symm (limN_lim V 2 (by omega)).symm (limN_lim V 3 (by omega)).symm
   have HA1 := Lib.hid a1
   have HB := Lib.hid hB
   have c0 := a2.cell (j := 0) (by omega)
   have c1 := a2.cell (j := 1) (by omega)
   have c2 := a2.cell (j := 2) (by omega)
   have c3 := a2.cell (j := 3) (by omega)
   have f0 := a1.frozen 0
   have f1 := a1.frozen 1
   have f2 := a1.frozen 2
   have f3 := a1.frozen 3
   have d0 := a1.cell (j := 0) (by omega)
   have d1 := a1.cell (j := 1) (by omega)
   have d2 := a1.cell (j := 2) (by omega)
   have d3 := a1.cell (j := 3) (by omega)
   clear hi hlt a1 a2 xx hB HP hV
   go_wp2
   refine bodyPost_ret (results_word rfl rfl (HA1.out.store (lim V))) rfl ⟨rfl, ?_⟩
   exact (((HB.out.setCell (p := ⟨w.heap.size, 0, none⟩) (by simp) _).setCell (p := ⟨w.heap.size, 1, none⟩) (by simp) _).setCell (p := ⟨w.heap.size, 2, none⟩) (by simp) _).setCell (p := ⟨w.heap.size, 3, none⟩) (by simp) _
end
section
open Go Go.RowKit Go.Shelf
attribute [local go_sem] Oper.semAt_some wide_fn
theorem bit_of (N q r : Nat) (hr : r < 64) : limN N q / 2 ^ r % 2 = N / 2 ^ (64 * q + r) % 2 := by
 unfold limN
 have h64 : (18446744073709551616 : Nat) = 2 ^ r * (2 * 2 ^ (63 - r)) := by
  rw [show (18446744073709551616 : Nat) = 2 ^ 64 by decide, ← Nat.pow_succ', ← Nat.pow_add]
  congr 1
  omega
 have e : N / 2 ^ (64 * q + r) = N / 18446744073709551616 ^ q / 2 ^ r := by
  rw [Nat.div_div_eq_div_mul]
  congr 1
  rw [show (18446744073709551616 : Nat) = 2 ^ 64 by decide, ← Nat.pow_mul, ← Nat.pow_add]
 rw [e]
 generalize N / 18446744073709551616 ^ q = M
 rw [h64, Nat.mod_mul_right_div_self, Nat.mod_mul_right_mod]
theorem bits4_seq (n : Nat) (hn : 1 ≤ n) (Bb Bn B below N : Nat) (hbl : below ≤ 256) (w : World) (h1 : Bb < w.heap.size) (h2 : Bn < w.heap.size) (h3 : B < w.heap.size) (c1 : w.cell? ⟨Bb, 0, none⟩ = some (.int .i64 (below : Int))) (c2 : w.cell? ⟨Bn, 0, none⟩ = some (.pointer (some ⟨B, 0, none⟩)))
  (c3 : ∀ j, j < 4 → w.cell? ⟨B, j, none⟩ = some (.int .u64 (limN N j : Int))) :
  SeqN Fence.wide n Tryz.prog 164 #[.pointer (some ⟨Bb, 0, none⟩), .pointer (some ⟨Bn, 0, none⟩)] (fun i => #[.int .i64 ((below - 1 - i : Nat) : Int), .int .u64 ((N / 2 ^ (below - 1 - i) % 2 : Nat) : Int)]) (KeepsAt [Bb, Bn, B]) below w := by
 intro l J Jx W hW _ _ hY h0
 have b1 := (hW.cell (p := ⟨Bb, 0, none⟩) h1).trans c1
 have b2 := (hW.cell (p := ⟨Bn, 0, none⟩) h2).trans c2
 have b3 : ∀ j, j < 4 → W.cell? ⟨B, j, none⟩ = some (.int .u64 (limN N j : Int)) := fun j hj => (hW.cell (p := ⟨B, j, none⟩) h3).trans (c3 j hj)
 clear c1 c2 c3
 have hb0 : (0 : Int) ≤ (below : Int) := by omega
 have hb1 : (below : Int) ≤ 256 := by omega
 refine callsIn_of_wp Tryz.func164 rfl trivial ?_ rfl
 simp only [Tryz.ntmps164, List.size_toArray, List.length_cons, List.length_nil, Nat.reduceAdd, Nat.reduceSub, Array.replicate_succ, Array.replicate_zero, List.push_toArray, List.append_toArray, List.nil_append, List.cons_append]
 gi_wp2
 gi_loopw [4] (fun q wr => ∃ (z : Int) (i : Nat), q = .int .i64 z ∧ i ≤ below ∧ z = (below : Int) - 1 - (i : Int) ∧ J i wr ∧ KeepsAt [Bb, Bn, B] W wr) (fun q _ => (intOf q + 1).toNat)
 case atStart => exact ⟨_, 0, rfl, Nat.zero_le _, by simp, h0, KeepsAt.refl _ _⟩
 case round =>
  obtain ⟨z, i, rfl, hi, hz, hJs, hnx⟩ := hrel
  have d2 : wr.cell? ⟨Bn, 0, none⟩ = some (.pointer (some ⟨B, 0, none⟩)) := (hnx.cell (p := ⟨Bn, 0, none⟩) (by simp)).trans b2
  clear b1 b2
  by_cases hlt : i < below
  ·obtain ⟨p, hp⟩ : ∃ p : Nat, p = below - 1 - i := ⟨_, rfl⟩
   obtain rfl : z = (p : Int) := by omega
   obtain ⟨fn, tmps, assign, body, hy, hR⟩ := hY i wr hlt hJs
   rw [← hp] at hy
   obtain ⟨q, r, hqr, hr⟩ : ∃ q r, p = 64 * q + r ∧ r < 64 := ⟨p / 64, p % 64, by omega, by omega⟩
   have hq : q < 4 := by omega
   have d3 : wr.cell? ⟨B, q, none⟩ = some (.int .u64 (limN N q : Int)) := (hnx.cell (p := ⟨B, q, none⟩) (by simp)).trans (b3 q hq)
   have q1 : ((p : Int)).tdiv 64 = (q : Int) := by rw [Int.tdiv_eq_ediv_of_nonneg (by omega)]; omega
   have q2 : ((p : Int)).tmod 64 = (r : Int) := by rw [Int.tmod_eq_emod_of_nonneg (by omega)]; omega
   have hq0 : (0 : Int) ≤ (q : Int) := by omega
   have hq1 : (q : Int) < 4 := by omega
   have hr0 : (0 : Int) ≤ (r : Int) := by omega
   have hr1 : (r : Int) < 64 := by omega
   have hp0 : (0 : Int) ≤ (p : Int) := by omega
   have hp1 : (p : Int) < 256 := by omega
   have hbit := bit_of N q r hr
   rw [← hqr] at hbit
   have hu := limN_lt N q
   have hand : bits .and .u64 ((limN N q : Int) / 2 ^ r) 1 = ((N / 2 ^ p % 2 : Nat) : Int) := by
    have e1 : (limN N q : Int) / 2 ^ r = ((limN N q / 2 ^ r : Nat) : Int) := by rw [Int.natCast_ediv, Int.natCast_pow]; rfl
    rw [e1, show (1 : Int) = ((1 : Nat) : Int) from rfl, u64_and_nat _ 1 (Nat.lt_of_le_of_lt (Nat.div_le_self _ _) hu) (by decide), Nat.and_one_is_mod, hbit]
   have u0 : (0 : Int) ≤ (limN N q : Int) := by omega
   have u1 : (limN N q : Int) < 18446744073709551616 := by omega
   have HI := Lib.hid hlt
   have HP := Lib.hid hp
   clear hi hz hlt hqr hr hq hbit hu hp b3 hY
   generalize (limN N q : Int) = u at *
   generalize ((N / 2 ^ p % 2 : Nat) : Int) = bt at *
   gi_wp2
   refine hR.mono ?_
   rintro e W3 (⟨rfl, hJ3, hk3⟩ | ⟨rfl, hJx3⟩)
   ·gi_wp2
    go_roundw
    case rel => exact ⟨(p : Int) - 1, i + 1, by simp, HI.out, by have := HP.out; have := HI.out; omega, hJ3, hnx.trans hk3⟩
    case measure => first | (simp [intOf]; done) | (simp [intOf]; omega)
   ·gi_wp2
    refine bodyPost_ret (results_none rfl _ _ _) rfl ?_
    exact ⟨⟨_, rfl⟩, .inr ⟨i, HI.out, hJx3⟩⟩
  ·obtain rfl : i = below := by omega
   obtain rfl : z = -1 := by omega
   have HJ := Lib.hid hJs
   clear hi hz hlt hJs b3 hY
   gi_wp2
   go_end0
   exact ⟨⟨_, rfl⟩, .inl HJ.out⟩
theorem bits4_any (B : Nat) (x : Int) (w : World) :
  Calls Tryz.prog 144 #[.pointer (some ⟨B, 0, none⟩), .int .i64 x] w fun e w' => e = .returned (.func (.func 164) #[] #[.pointer (some ⟨w.heap.size + 1, 0, none⟩), .pointer (some ⟨w.heap.size, 0, none⟩)]) ∧ w' = (w.alloc (.cells #[.pointer (some ⟨B, 0, none⟩)] 151)).alloc (.cells #[.int .i64 x] 3) := by
 go_enter Tryz.func144, Tryz.ntmps144
 go_wp2
 go_ret
 exact ⟨rfl, rfl⟩
theorem bits8_seq (n : Nat) (hn : 1 ≤ n) (Bb Bn B below N : Nat) (hbl : below ≤ 512) (w : World) (h1 : Bb < w.heap.size) (h2 : Bn < w.heap.size) (h3 : B < w.heap.size) (c1 : w.cell? ⟨Bb, 0, none⟩ = some (.int .i64 (below : Int))) (c2 : w.cell? ⟨Bn, 0, none⟩ = some (.pointer (some ⟨B, 0, none⟩)))
  (c3 : ∀ j, j < 8 → w.cell? ⟨B, j, none⟩ = some (.int .u64 (limN N j : Int))) :
  SeqN Fence.wide n Tryz.prog 183 #[.pointer (some ⟨Bb, 0, none⟩), .pointer (some ⟨Bn, 0, none⟩)] (fun i => #[.int .i64 ((below - 1 - i : Nat) : Int), .int .u64 ((N / 2 ^ (below - 1 - i) % 2 : Nat) : Int)]) (KeepsAt [Bb, Bn, B]) below w := by
 intro l J Jx W hW _ _ hY h0
 have b1 := (hW.cell (p := ⟨Bb, 0, none⟩) h1).trans c1
 have b2 := (hW.cell (p := ⟨Bn, 0, none⟩) h2).trans c2
 have b3 : ∀ j, j < 8 → W.cell? ⟨B, j, none⟩ = some (.int .u64 (limN N j : Int)) := fun j hj => (hW.cell (p := ⟨B, j, none⟩) h3).trans (c3 j hj)
 clear c1 c2 c3
 have hb0 : (0 : Int) ≤ (below : Int) := by omega
 have hb1 : (below : Int) ≤ 512 := by omega
 refine callsIn_of_wp Tryz.func183 rfl trivial ?_ rfl
 simp only [Tryz.ntmps183, List.size_toArray, List.length_cons, List.length_nil, Nat.reduceAdd, Nat.reduceSub, Array.replicate_succ, Array.replicate_zero, List.push_toArray, List.append_toArray, List.nil_append, List.cons_append]
 gi_wp2
 gi_loopw [4] (fun q wr => ∃ (z : Int) (i : Nat), q = .int .i64 z ∧ i ≤ below ∧ z = (below : Int) - 1 - (i : Int) ∧ J i wr ∧ KeepsAt [Bb, Bn, B] W wr) (fun q _ => (intOf q + 1).toNat)
 case atStart => exact ⟨_, 0, rfl, Nat.zero_le _, by simp, h0, KeepsAt.refl _ _⟩
 case round =>
  obtain ⟨z, i, rfl, hi, hz, hJs, hnx⟩ := hrel
  have d2 : wr.cell? ⟨Bn, 0, none⟩ = some (.pointer (some ⟨B, 0, none⟩)) := (hnx.cell (p := ⟨Bn, 0, none⟩) (by simp)).trans b2
  clear b1 b2
  by_cases hlt : i < below
  ·obtain ⟨p, hp⟩ : ∃ p : Nat, p = below - 1 - i := ⟨_, rfl⟩
   obtain rfl : z = (p : Int) := by omega
   obtain ⟨fn, tmps, assign, body, hy, hR⟩ := hY i wr hlt hJs
   rw [← hp] at hy
   obtain ⟨q, r, hqr, hr⟩ : ∃ q r, p = 64 * q + r ∧ r < 64 := ⟨p / 64, p % 64, by omega, by omega⟩
   have hq : q < 8 := by omega
   have d3 : wr.cell? ⟨B, q, none⟩ = some (.int .u64 (limN N q : Int)) := (hnx.cell (p := ⟨B, q, none⟩) (by simp)).trans (b3 q hq)
   have q1 : ((p : Int)).tdiv 64 = (q : Int) := by rw [Int.tdiv_eq_ediv_of_nonneg (by omega)]; omega
   have q2 : ((p : Int)).tmod 64 = (r : Int) := by rw [Int.tmod_eq_emod_of_nonneg (by omega)]; omega
   have hq0 : (0 : Int) ≤ (q : Int) := by omega
   have hq1 : (q : Int) < 8 := by omega
   have hr0 : (0 : Int) ≤ (r : Int) := by omega
   have hr1 : (r : Int) < 64 := by omega
   have hp0 : (0 : Int) ≤ (p : Int) := by omega
   have hp1 : (p : Int) < 512 := by omega
   have hbit := bit_of N q r hr
   rw [← hqr] at hbit
   have hu := limN_lt N q
   have hand : bits .and .u64 ((limN N q : Int) / 2 ^ r) 1 = ((N / 2 ^ p % 2 : Nat) : Int) := by
    have e1 : (limN N q : Int) / 2 ^ r = ((limN N q / 2 ^ r : Nat) : Int) := by rw [Int.natCast_ediv, Int.natCast_pow]; rfl
    rw [e1, show (1 : Int) = ((1 : Nat) : Int) from rfl, u64_and_nat _ 1 (Nat.lt_of_le_of_lt (Nat.div_le_self _ _) hu) (by decide), Nat.and_one_is_mod, hbit]
   have u0 : (0 : Int) ≤ (limN N q : Int) := by omega
   have u1 : (limN N q : Int) < 18446744073709551616 := by omega
   have HI := Lib.hid hlt
   have HP := Lib.hid hp
   clear hi hz hlt hqr hr hq hbit hu hp b3 hY
   generalize (limN N q : Int) = u at *
   generalize ((N / 2 ^ p % 2 : Nat) : Int) = bt at *
   gi_wp2
   refine hR.mono ?_
   rintro e W3 (⟨rfl, hJ3, hk3⟩ | ⟨rfl, hJx3⟩)
   ·gi_wp2
    go_roundw
    case rel => exact ⟨(p : Int) - 1, i + 1, by simp, HI.out, by have := HP.out; have := HI.out; omega, hJ3, hnx.trans hk3⟩
    case measure => first | (simp [intOf]; done) | (simp [intOf]; omega)
   ·gi_wp2
    refine bodyPost_ret (results_none rfl _ _ _) rfl ?_
    exact ⟨⟨_, rfl⟩, .inr ⟨i, HI.out, hJx3⟩⟩
  ·obtain rfl : i = below := by omega
   obtain rfl : z = -1 := by omega
   have HJ := Lib.hid hJs
   clear hi hz hlt hJs b3 hY
   gi_wp2
   go_end0
   exact ⟨⟨_, rfl⟩, .inl HJ.out⟩
theorem bits8_any (B : Nat) (x : Int) (w : World) :
  Calls Tryz.prog 173 #[.pointer (some ⟨B, 0, none⟩), .int .i64 x] w fun e w' => e = .returned (.func (.func 183) #[] #[.pointer (some ⟨w.heap.size + 1, 0, none⟩), .pointer (some ⟨w.heap.size, 0, none⟩)]) ∧ w' = (w.alloc (.cells #[.pointer (some ⟨B, 0, none⟩)] 172)).alloc (.cells #[.int .i64 x] 3) := by
 go_enter Tryz.func173, Tryz.ntmps173
 go_wp2
 go_ret
 exact ⟨rfl, rfl⟩
end
end Go.Proofs.YtnkhmgmganejmaaGreatDoor
