/- The reference's theta. -/
import Derived.Test.YtobdjakflknlcaaDoorKRefB
import Derived.Laws.AppendOwn
import Derived.Laws.OwnMore
import Derived.OwnWalk
import Derived.WalkSmall
namespace Go.Proofs.YtobdjakflknlcaaDoor
open Go Go.RowKit Go.Shelf
attribute [local go_sem] Oper.semAt_some Grows wide_fn field0

theorem owns_below {w w' : World} {base : Nat} {e : TypeId} {size : Nat} {v : Value} {n : Nat} {xs : List Value} (h : w.ownsRow base e size v n xs) (hb : Below w.heap.size w w') : w'.ownsRow base e size v n xs :=
  h.kept (grown_of_below hb none) (by cases hv : v.ownBlock <;> simp)
theorem cell_one (w : World) (x : Value) (t : TypeId) : ∀ j u, [x][j]? = some u → (w.alloc (.cells #[x] t)).cell? ((⟨w.heap.size, 0, none⟩ : Addr).add j) = some u := by
  intro j v hj
  have L := Has.new w t #[x]
  have hadd : (⟨w.heap.size, 0, none⟩ : Addr).add j = ⟨w.heap.size, j, none⟩ := by unfold Addr.add; split <;> simp_all
  rw [hadd]
  exact L.cell j v (by simpa using hj)
theorem row_form {w : World} {base : Nat} {e : TypeId} {v : Value} {n : Nat} {xs : List Value} (h : w.ownsRow base e 1 v n xs) : ∃ o cap, v = .slice o n cap := by
  rcases h.2 with ⟨rfl, rfl⟩ | ⟨g, cap, _, rfl, _⟩
  · exact ⟨_, _, rfl⟩
  · exact ⟨_, _, rfl⟩
/-- So many ints. -/
def rowI (A : Nat → Nat) (k : Nat) : List Value := (List.range k).map fun j => Value.int .i64 ((A j : Nat) : Int)
theorem rowI_succ (A : Nat → Nat) (k : Nat) : rowI A (k + 1) = rowI A k ++ [.int .i64 ((A k : Nat) : Int)] := by simp [rowI, List.range_succ]
theorem owns_cells {w : World} {base : Nat} {v : Value} {n : Nat} {A : Nat → Nat} (hn : 0 < n) (h : w.ownsRow base 3 1 v n (rowI A n)) : ∃ g cap, v = .slice (some ⟨g, 0, none⟩) n cap ∧ base ≤ g ∧ g < w.heap.size ∧ CellsAt w g n A := by
  rcases h.2 with ⟨_, h0⟩ | ⟨g, cap, cur, rfl, hb, _⟩
  · omega
  · refine ⟨g, cap, rfl, hb, (h.lt g rfl).2, fun j hj => ?_⟩
    have hadd : (⟨g, 0, none⟩ : Addr).add j = ⟨g, j, none⟩ := by unfold Addr.add; split <;> simp_all
    rw [← hadd]
    refine h.cells (g := g) rfl j _ ?_
    unfold rowI
    rw [List.getElem?_map, List.getElem?_range hj]
    rfl

/-- The sum of so many bits of a column. -/
def psB (A : Nat → Nat) (x z : Nat) : Nat → Nat
  | 0 => 0
  | y + 1 => psB A x z y + A (64 * (5 * y + x) + z)
theorem psB_le (A : Nat → Nat) (hA : ∀ j, A j ≤ 1) (x z : Nat) : ∀ y, psB A x z y ≤ y
  | 0 => Nat.le_refl _
  | y + 1 => by have := psB_le A hA x z y; have := hA (64 * (5 * y + x) + z); unfold psB; omega
def colB (A : Nat → Nat) (j : Nat) : Nat := psB A (j / 64) (j % 64) 5 % 2
theorem colB_at (A : Nat → Nat) (x z : Nat) (hz : z < 64) : colB A (64 * x + z) = psB A x z 5 % 2 := by
  unfold colB
  rw [show (64 * x + z) / 64 = x by omega, show (64 * x + z) % 64 = z by omega]
theorem colB_le (A : Nat → Nat) (j : Nat) : colB A j ≤ 1 := by unfold colB; omega
def theN (A : Nat → Nat) (j : Nat) : Nat := (A j + (colB A (64 * ((j / 64 % 5 + 4) % 5) + j % 64) + colB A (64 * ((j / 64 % 5 + 1) % 5) + (j % 64 + 63) % 64))) % 2
theorem theN_at (A : Nat → Nat) (x y z : Nat) (hx : x < 5) (hy : y < 5) (hz : z < 64) : theN A (64 * (5 * y + x) + z) = (A (64 * (5 * y + x) + z) + (colB A (64 * ((x + 4) % 5) + z) + colB A (64 * ((x + 1) % 5) + (z + 63) % 64))) % 2 := by
  unfold theN
  rw [show (64 * (5 * y + x) + z) / 64 % 5 = x by omega, show (64 * (5 * y + x) + z) % 64 = z by omega]
/-- When a place comes up: by column, bit, row. -/
def lxz (j : Nat) : Nat := (j / 64 % 5 * 64 + j % 64) * 5 + j / 320
theorem lxz_at (x y z : Nat) (hx : x < 5) (hy : y < 5) (hz : z < 64) : lxz (64 * (5 * y + x) + z) = (x * 64 + z) * 5 + y := by
  unfold lxz
  rw [show (64 * (5 * y + x) + z) / 64 % 5 = x by omega, show (64 * (5 * y + x) + z) % 64 = z by omega, show (64 * (5 * y + x) + z) / 320 = y by omega]
theorem lxz_inj (x y z j : Nat) (hx : x < 5) (hy : y < 5) (hz : z < 64) (hj : j < 1600) (h : lxz j = (x * 64 + z) * 5 + y) : j = 64 * (5 * y + x) + z := by
  unfold lxz at h
  have h1 : j / 320 < 5 := by omega
  have h2 : j / 64 = 5 * (j / 320) + j / 64 % 5 := by omega
  have h3 : j = 64 * (j / 64) + j % 64 := by omega
  have h4 : j % 64 < 64 := Nat.mod_lt _ (by omega)
  have h5 : j / 64 % 5 < 5 := Nat.mod_lt _ (by omega)
  generalize j / 320 = Y at *
  generalize j / 64 % 5 = X at *
  generalize j / 64 = J at *
  generalize j % 64 = Z at *
  have h6 : X * 64 + Z = x * 64 + z := by omega
  have h7 : X = x := by omega
  have h8 : Y = y := by omega
  omega
theorem lxz_lt (j : Nat) (hj : j < 1600) : lxz j < 1600 := by
  unfold lxz
  have h1 : j / 320 < 5 := by omega
  have h4 : j % 64 < 64 := Nat.mod_lt _ (by omega)
  have h5 : j / 64 % 5 < 5 := Nat.mod_lt _ (by omega)
  omega

set_option maxRecDepth 100000 in
set_option maxHeartbeats 8000000 in
theorem refTheta_calls (g cap : Nat) (A : Nat → Nat) (hA1 : ∀ j, A j ≤ 1) (w : World) (hA : CellsAt w g 1600 A) :
    Calls Tryd.prog 20 #[.slice (some ⟨g, 0, none⟩) 1600 cap] w fun e w' => ∃ h, e = .returned (.slice (some ⟨h, 0, none⟩) 1600 1600) ∧ w.heap.size ≤ h ∧ Has w' h 3 (inC 1600 (theN A)) ∧ Below w.heap.size w w' := by
  have hg := hA.lt (by omega)
  have hmx : Tryd.prog.follows .mixedOrders = true := by kernel_rfl
  have HA := Lib.hid hA
  have HA1 := Lib.hid hA1
  have HPS := Lib.hid (psB_le A hA1)
  clear hA hA1
  have RN : w.ownsRow w.heap.size 3 1 (.slice none 0 0) (64 * 0) (rowI (colB A) (64 * 0)) := World.ownsRow_nil w w.heap.size 3 1
  go_enter Tryd.func20, Tryd.ntmps20
  go_wp2_with fail
  go_loopw [3, 4] (fun t i wr => ∃ x : Nat, x ≤ 5 ∧ i = .int .i64 (x : Int) ∧ wr.ownsRow w.heap.size 3 1 t (64 * x) (rowI (colB A) (64 * x)) ∧ Below w.heap.size w wr) (fun _ i _ => 5 - (intOf i).toNat)
  case atStart => exact ⟨0, by omega, rfl, RN, Below.refl _ w⟩
  case round =>
    clear RN
    obtain ⟨x, hx, rfl, R, Q⟩ := hrel
    by_cases hx5 : x < 5
    · have hxI : (x : Int) < 5 := by omega
      have hx0 : (0 : Int) ≤ (x : Int) := by omega
      go_wp2_with fail
      go_loopw [3, 5] (fun t i wr => ∃ z : Nat, z ≤ 64 ∧ i = .int .i64 (z : Int) ∧ wr.ownsRow w.heap.size 3 1 t (64 * x + z) (rowI (colB A) (64 * x + z)) ∧ Below w.heap.size w wr) (fun _ i _ => 64 - (intOf i).toNat)
      case atStart => exact ⟨0, by omega, rfl, R, Q⟩
      case round =>
        clear R Q
        obtain ⟨z, hz, rfl, R, Q⟩ := hrel
        by_cases hz6 : z < 64
        · have hzI : (z : Int) < 64 := by omega
          have hz0 : (0 : Int) ≤ (z : Int) := by omega
          obtain ⟨o3, cap3, rfl⟩ := row_form R
          go_wp2_with fail
          go_loopw [6, 7] (fun n i wr => ∃ y : Nat, y ≤ 5 ∧ i = .int .i64 (y : Int) ∧ n = .int .i64 ((psB A x z y : Nat) : Int) ∧ wr.ownsRow w.heap.size 3 1 (.slice o3 (64 * x + z) cap3) (64 * x + z) (rowI (colB A) (64 * x + z)) ∧ Below w.heap.size w wr) (fun _ i _ => 5 - (intOf i).toNat)
          case atStart => exact ⟨0, by omega, rfl, rfl, R, Q⟩
          case round =>
            clear R Q
            obtain ⟨y, hy, rfl, rfl, R, Q⟩ := hrel
            by_cases hy5 : y < 5
            · have hyI : (y : Int) < 5 := by omega
              have hy0 : (0 : Int) ≤ (y : Int) := by omega
              have AP := Lib.hid (at_nat (x : Int) (y : Int) (z : Int) (64 * (5 * y + x) + z) (by omega) (by omega) (by omega) (by unfold atN; omega))
              have hp : 64 * (5 * y + x) + z < 1600 := by omega
              have ka := HA.out _ hp
              have hs : ((psB A x z y : Nat) : Int) + ((A (64 * (5 * y + x) + z) : Nat) : Int) = ((psB A x z (y + 1) : Nat) : Int) := by show _ = ((psB A x z y + A (64 * (5 * y + x) + z) : Nat) : Int); omega
              have hb0 : ((psB A x z (y + 1) : Nat) : Int) ≤ 6 := by have := HPS.out x z (y + 1); omega
              have HLT := Lib.hid hy5
              have HR := Lib.hid R
              have HQ := Lib.hid Q
              clear R Q hy hy5
              generalize hs1 : psB A x z (y + 1) = s1 at *
              have HS1 := Lib.hid hs1
              clear hs1
              generalize psB A x z y = s0 at *
              generalize 64 * (5 * y + x) + z = p at *
              have hpI : (p : Int) < 1600 := by omega
              go_wp2_with fail
              refine (AP.out _).mono ?_
              rintro e w2 ⟨rfl, q2⟩
              replace HR := Lib.hid (owns_below HR.out q2)
              replace HQ := Lib.hid (HQ.out.trans (q2.mono HQ.out.size))
              clear q2
              have kb : w2.cell? ⟨g, p, none⟩ = some (.int .i64 ((A p : Nat) : Int)) := (HQ.out.cell (p := ⟨g, p, none⟩) hg).trans ka
              clear ka
              generalize A p = ap at *
              go_wp2_with fail
              go_roundw
              case rel => exact ⟨y + 1, by have := HLT.out; omega, by simp, by rw [HS1.out], HR.out, HQ.out⟩
              case measure => simp [intOf]; omega
            · obtain rfl : y = 5 := by omega
              simp only [Int.cast_ofNat_Int]
              have hv : ((psB A x z 5 : Nat) : Int).tmod 2 = ((colB A (64 * x + z) : Nat) : Int) := by rw [colB_at A x z hz6, Int.tmod_eq_emod_of_nonneg (by omega)]; omega
              have hs5 : ((psB A x z 5 : Nat) : Int) ≤ 5 := by have := HPS.out x z 5; omega
              have HS := Lib.hid (rowI_succ (colB A) (64 * x + z))
              have HLT := Lib.hid (And.intro hx5 hz6)
              have HRow := Lib.hid R
              have HQ := Lib.hid Q
              obtain ⟨i0, hi, hz0', hz1, hz2⟩ := info_parts infoI
              clear R Q hy hy5 hz hx
              generalize colB A (64 * x + z) = cv at *
              generalize psB A x z 5 = s5 at *
              generalize hK : 64 * x + z = K at *
              have HK := Lib.hid hK
              clear hK
              go_wp2_with (at_builtin; refine wpList_append_own _ rfl _ _ 39 rfl w.heap.size 3 i0 (.int .i64 0) 1 8 Tryd.underlying39 hi hz0' hz1 hz2 rfl (by decide) _ _ _ rfl (HRow.out.alloc _) ⟨wr.heap.size, 0, none⟩ 1 1 [.int .i64 (cv : Int)] rfl rfl (cell_one _ _ _) (by simp [Value.oneCell']) (by unfold maxLen; have := HLT.out; have := HK.out; omega) (by have := HLT.out; have := HK.out; omega) (by have := HQ.out.size; simp; omega) ?_; intro v' w3 hown' hgrow hnil)
              clear hi hz0' hz1 hz2
              go_wp2_with fail
              go_roundw
              case rel =>
                have hne := fun (r : Nat) e => ((HRow.out.alloc (.cells #[.int .i64 (cv : Int)] 3)).lt r e).1
                have := HLT.out
                refine ⟨z + 1, by omega, by simp, ?_, (HQ.out.alloc HQ.out.size _).grown hgrow (by have := HQ.out.size; simp; omega) (fun j e => by have := hne j e; omega)⟩
                rw [show 64 * x + (z + 1) = K + 1 by have := HK.out; omega, HS.out]
                exact hown'
              case measure => simp [intOf]; omega
        · obtain rfl : z = 64 := by omega
          simp only [Int.cast_ofNat_Int]
          have HR := Lib.hid R
          have HQ := Lib.hid Q
          clear R Q
          go_wp2_with fail
          go_roundw
          case rel => exact ⟨x + 1, by omega, by simp, by rw [show 64 * (x + 1) = 64 * x + 64 by omega]; exact HR.out, HQ.out⟩
          case measure => simp [intOf]; omega
    · obtain rfl : x = 5 := by omega
      simp only [Int.cast_ofNat_Int]
      obtain ⟨Wm, hWm⟩ : ∃ Wm, Wm = wr := ⟨_, rfl⟩
      subst hWm
      rw [show 64 * 5 = 320 from rfl] at R
      obtain ⟨gc, capc, rfl, hgc, hgl, hC⟩ := owns_cells (by omega) R
      have hmk := run_mkI Wm
      have LM := Has.new Wm 3 (inC 1600 fun _ => 0)
      have KC := hC.below (Below.refl Wm.heap.size Wm) hgl
      have KA : CellsAt Wm g 1600 A := HA.out.below Q hg
      have hgw : g < Wm.heap.size := Nat.lt_of_lt_of_le hg Q.size
      have QM := (Below.refl Wm.heap.size Wm).alloc (Nat.le_refl _) (.cells (inC 1600 fun _ => 0) 3)
      rw [← doneN_zero (theN A) lxz] at LM QM hmk
      obtain ⟨W1, hW1⟩ : ∃ W1, Wm.alloc (.cells (inC 1600 (doneN (theN A) lxz 0)) 3) = W1 := ⟨_, rfl⟩
      rw [hW1] at hmk LM QM
      clear hW1 R hC
      have HKC := Lib.hid KC
      have HKA := Lib.hid KA
      have HQ0 := Lib.hid Q
      clear KC KA Q HA
      go_wp2_with fail
      clear hmk
      go_loopw [9] (fun i wr => ∃ x : Nat, x ≤ 5 ∧ i = .int .i64 (x : Int) ∧ Has wr Wm.heap.size 3 (inC 1600 (doneN (theN A) lxz (x * 320))) ∧ Below Wm.heap.size Wm wr) (fun i _ => 5 - (intOf i).toNat)
      case atStart => exact ⟨0, by omega, rfl, LM, QM⟩
      case round =>
        clear LM QM
        obtain ⟨x, hx, rfl, L, Q⟩ := hrel
        by_cases hx5 : x < 5
        · have hxI : (x : Int) < 5 := by omega
          have hx0 : (0 : Int) ≤ (x : Int) := by omega
          go_wp2_with fail
          go_loopw [10] (fun i wr => ∃ z : Nat, z ≤ 64 ∧ i = .int .i64 (z : Int) ∧ Has wr Wm.heap.size 3 (inC 1600 (doneN (theN A) lxz ((x * 64 + z) * 5))) ∧ Below Wm.heap.size Wm wr) (fun i _ => 64 - (intOf i).toNat)
          case atStart => exact ⟨0, by omega, rfl, by rw [show (x * 64 + 0) * 5 = x * 320 by omega]; exact L, Q⟩
          case round =>
            clear L Q
            obtain ⟨z, hz, rfl, L, Q⟩ := hrel
            by_cases hz6 : z < 64
            · have hzI : (z : Int) < 64 := by omega
              have hz0 : (0 : Int) ≤ (z : Int) := by omega
              have e4 : ((x : Int) + 4).tmod 5 = (((x + 4) % 5 : Nat) : Int) := by rw [Int.tmod_eq_emod_of_nonneg (by omega)]; omega
              have e1 : ((x : Int) + 1).tmod 5 = (((x + 1) % 5 : Nat) : Int) := by rw [Int.tmod_eq_emod_of_nonneg (by omega)]; omega
              have e63 : ((z : Int) + 63).tmod 64 = (((z + 63) % 64 : Nat) : Int) := by rw [Int.tmod_eq_emod_of_nonneg (by omega)]; omega
              have hq4 : (x + 4) % 5 < 5 := Nat.mod_lt _ (by omega)
              have hq1 : (x + 1) % 5 < 5 := Nat.mod_lt _ (by omega)
              have hq63 : (z + 63) % 64 < 64 := Nat.mod_lt _ (by omega)
              have HV := Lib.hid (fun y (hy : y < 5) => theN_at A x y z hx5 hy hz6)
              generalize (x + 4) % 5 = q4 at *
              generalize (x + 1) % 5 = q1 at *
              generalize (z + 63) % 64 = z63 at *
              have q4I : (q4 : Int) < 5 := by omega
              have q1I : (q1 : Int) < 5 := by omega
              have z63I : (z63 : Int) < 64 := by omega
              have ei : 64 * (q4 : Int) + (z : Int) = ((64 * q4 + z : Nat) : Int) := by omega
              have ej : 64 * (q1 : Int) + (z63 : Int) = ((64 * q1 + z63 : Nat) : Int) := by omega
              have hil : 64 * q4 + z < 320 := by omega
              have hjl : 64 * q1 + z63 < 320 := by omega
              have ki : ∀ X : Ext wr, X.w.cell? ⟨gc, 64 * q4 + z, none⟩ = some (.int .i64 ((colB A (64 * q4 + z) : Nat) : Int)) := fun X => ((Q.trans (X.below.mono Q.size)).cell (p := ⟨gc, _, none⟩) hgl).trans (HKC.out _ hil)
              have kj : ∀ X : Ext wr, X.w.cell? ⟨gc, 64 * q1 + z63, none⟩ = some (.int .i64 ((colB A (64 * q1 + z63) : Nat) : Int)) := fun X => ((Q.trans (X.below.mono Q.size)).cell (p := ⟨gc, _, none⟩) hgl).trans (HKC.out _ hjl)
              have c0 := colB_le A (64 * q4 + z)
              have c1 := colB_le A (64 * q1 + z63)
              have ed : ((colB A (64 * q4 + z) : Nat) : Int) + ((colB A (64 * q1 + z63) : Nat) : Int) = ((colB A (64 * q4 + z) + colB A (64 * q1 + z63) : Nat) : Int) := by omega
              have hd2 : colB A (64 * q4 + z) + colB A (64 * q1 + z63) ≤ 2 := by omega
              generalize hdd : colB A (64 * q4 + z) + colB A (64 * q1 + z63) = d at *
              generalize colB A (64 * q4 + z) = d1 at *
              generalize colB A (64 * q1 + z63) = d2 at *
              generalize 64 * q4 + z = i4 at *
              generalize 64 * q1 + z63 = i1 at *
              have hiI : (i4 : Int) < 320 := by omega
              have hjI : (i1 : Int) < 320 := by omega
              have d1I : (d1 : Int) ≤ 1 := by omega
              have d2I : (d2 : Int) ≤ 1 := by omega
              have hd2I : (d : Int) ≤ 2 := by omega
              have HL := Lib.hid L
              have HQ := Lib.hid Q
              clear L Q hdd c0 c1 hil hjl hq4 hq1 hq63
              go_wp2_with fail
              refine wp_region_quietL (C := Grows wr) hmx (by kernel_rfl) (grows_refl wr) ?_
              repeat (go_big_quiet_step (fail))
              refine wpQuiet_nil ?_
              rintro _ ⟨X, rfl⟩
              replace HL := Lib.hid (HL.out.later X.below)
              replace HQ := Lib.hid (HQ.out.trans (X.below.mono HQ.out.size))
              clear ki kj
              obtain ⟨wu, hwu⟩ : ∃ wu, X.w = wu := ⟨_, rfl⟩
              rw [hwu] at HL HQ ⊢
              clear hwu X e4 e1 e63 ei ej ed
              go_wp2_with fail
              go_loopw [12] (fun i wr => ∃ y : Nat, y ≤ 5 ∧ i = .int .i64 (y : Int) ∧ Has wr Wm.heap.size 3 (inC 1600 (doneN (theN A) lxz ((x * 64 + z) * 5 + y))) ∧ Below Wm.heap.size Wm wr) (fun i _ => 5 - (intOf i).toNat)
              case atStart => exact ⟨0, by omega, rfl, HL.out, HQ.out⟩
              case round =>
                clear HL HQ
                obtain ⟨y, hy, rfl, L, Q⟩ := hrel
                by_cases hy5 : y < 5
                · have hyI : (y : Int) < 5 := by omega
                  have hy0 : (0 : Int) ≤ (y : Int) := by omega
                  have hp : 64 * (5 * y + x) + z < 1600 := by omega
                  have HS := Lib.hid (doneN_set (theN A) lxz 1600 ((x * 64 + z) * 5 + y) (64 * (5 * y + x) + z) (lxz_at x y z hx5 hy5 hz6) (fun j hj h => lxz_inj x y z j hx5 hy5 hz6 hj h))
                  have AP := Lib.hid (at_nat (x : Int) (y : Int) (z : Int) (64 * (5 * y + x) + z) (by omega) (by omega) (by omega) (by unfold atN; omega))
                  have hv := HV.out y hy5
                  rw [hv] at HS
                  have ka := HKA.out _ hp
                  have a0 := HA1.out (64 * (5 * y + x) + z)
                  have em : ((A (64 * (5 * y + x) + z) : Nat) : Int) + (d : Int) = ((A (64 * (5 * y + x) + z) + d : Nat) : Int) := by omega
                  have ev : ((A (64 * (5 * y + x) + z) + d : Nat) : Int).tmod 2 = (((A (64 * (5 * y + x) + z) + d) % 2 : Nat) : Int) := by rw [Int.tmod_eq_emod_of_nonneg (by omega)]; omega
                  have hb3 : ((A (64 * (5 * y + x) + z) + d : Nat) : Int) ≤ 3 := by omega
                  have HLT := Lib.hid hy5
                  have HL := Lib.hid L
                  have HQ := Lib.hid Q
                  clear L Q hv hy hy5
                  generalize (A (64 * (5 * y + x) + z) + d) % 2 = v at *
                  generalize A (64 * (5 * y + x) + z) + d = s at *
                  generalize A (64 * (5 * y + x) + z) = ap at *
                  generalize 64 * (5 * y + x) + z = p at *
                  have hpI : (p : Int) < 1600 := by omega
                  have apI : (ap : Int) ≤ 1 := by omega
                  clear a0
                  go_wp2_with fail
                  refine (AP.out _).mono ?_
                  rintro e w2 ⟨rfl, q2⟩
                  replace HL := Lib.hid (HL.out.later q2)
                  replace HQ := Lib.hid (HQ.out.trans (q2.mono HQ.out.size))
                  clear q2
                  go_wp2_with fail
                  refine (AP.out _).mono ?_
                  rintro e w3 ⟨rfl, q3⟩
                  replace HL := Lib.hid (HL.out.later q3)
                  replace HQ := Lib.hid (HQ.out.trans (q3.mono HQ.out.size))
                  clear q3
                  have kb : w3.cell? ⟨g, p, none⟩ = some (.int .i64 ((ap : Nat) : Int)) := (HQ.out.cell (p := ⟨g, p, none⟩) hgw).trans ka
                  have kc := HL.out.cell _ _ (inC_get 1600 _ p hp)
                  have kz := HL.out.frozen p
                  have L1 := HL.out.set p (.int .i64 ((v : Nat) : Int))
                  rw [inC_set 1600 _ (doneN (theN A) lxz ((x * 64 + z) * 5 + y + 1)) p _ HS.out] at L1
                  have N1 := Lib.hid L1
                  have N2 := Lib.hid (HQ.out.setCell (p := ⟨Wm.heap.size, p, none⟩) (Nat.le_refl _) (.int .i64 ((v : Nat) : Int)))
                  clear L1 ka HL HQ HS
                  go_wp2_with fail
                  go_roundw
                  case rel => exact ⟨y + 1, by have := HLT.out; omega, by simp, N1.out, N2.out⟩
                  case measure => simp [intOf]; omega
                · obtain rfl : y = 5 := by omega
                  simp only [Int.cast_ofNat_Int]
                  have HL := Lib.hid L
                  have HQ := Lib.hid Q
                  clear L Q
                  go_wp2_with fail
                  go_roundw
                  case rel => exact ⟨z + 1, by omega, by simp, by rw [show (x * 64 + (z + 1)) * 5 = (x * 64 + z) * 5 + 5 by omega]; exact HL.out, HQ.out⟩
                  case measure => simp [intOf]; omega
            · obtain rfl : z = 64 := by omega
              simp only [Int.cast_ofNat_Int]
              have HL := Lib.hid L
              have HQ := Lib.hid Q
              clear L Q
              go_wp2_with fail
              go_roundw
              case rel => exact ⟨x + 1, by omega, by simp, by rw [show (x + 1) * 320 = (x * 64 + 64) * 5 by omega]; exact HL.out, HQ.out⟩
              case measure => simp [intOf]; omega
        · obtain rfl : x = 5 := by omega
          rw [doneN_all (theN A) lxz 1600 (5 * 320) (fun j hj => lxz_lt j hj)] at L
          have HL := Lib.hid L
          have HQ := Lib.hid (HQ0.out.trans (Q.mono HQ0.out.size))
          have HQZ := Lib.hid HQ0.out.size
          clear L Q
          go_wp2_with fail
          go_ret
          exact ⟨_, rfl, HQZ.out, HL.out, HQ.out⟩
end Go.Proofs.YtobdjakflknlcaaDoor
