import Derived.Test.YtbbpmcebakckaaaGreatDoorU17
import Derived.Test.YtbbpmcebakckaaaGreatDoorU14
import Derived.Laws.BytesArg
import Derived.Test.YtbbpmcebakckaaaGreatDoorU10
/- read and Decode. Conditions: the text is in reach; for errors errors.errorType lies in memory as it was laid. -/
namespace Go.Proofs.YtbbpmcebakckaaaGreatDoor
open Go Go.RowKit
attribute [local go_sem] Oper.semAt_some Grows wide_fn

/-- A text as one item, to its end. -/
def topR (n : Nat) : Rd It → Rd It
  | .no x p => .no x p
  | .ok t a m => if a < n then .no 12 a else .ok t a m
def rdTop (s : ByteArray) : Rd It := topR s.size (rdI s 16 s.size 0 0)
def ReadP (W : World) (r : Rd It) (e : Ending) (W' : World) : Prop := match r with
  | .ok t _ _ => ∃ v, e = .returned (.tuple #[v, .nilIface]) ∧ ItemS W' (fun b => W.heap.size ≤ b) t v ∧ Below W.heap.size W W'
  | .no x p => e = .returned (.tuple #[.agg #[.bool false, .string ⟨#[]⟩, .slice none 0 0], fltV x p]) ∧ Below W.heap.size W W'
theorem Has.sr' {A X : World} {R B : Nat} {t : TypeId} {cs : Array Value} (h : Has A B t cs) (hg : A.grownBy X (some R)) (hne : B ≠ R) : Has X B t cs := h.sr hg hne
theorem below_grown {w A : World} {R : Nat} (h : w.grownBy A (some R)) (hR : w.heap.size ≤ R) : Below w.heap.size w A := ⟨h.os, h.tape, h.output, h.size, fun k hk => h.block k hk (fun e => by injection e with e; omega)⟩

set_option maxRecDepth 100000 in
set_option maxHeartbeats 4000000 in
theorem read_any (s : ByteArray) (hs : s.size ≤ 1099511627776) (w : World) : Calls Tryz.prog 39 #[.string s] w (ReadP w (rdTop s)) := by
  have hmx : Tryz.prog.follows .mixedOrders = true := by kernel_rfl
  have LS := (Has.new w 29 #[.bool false, .string ⟨#[]⟩, .slice none 0 0]).alloc (.cells #[.string s, .int .i64 0, .int .i64 0] 100)
  have LR := Has.new (w.alloc (.cells #[.bool false, .string ⟨#[]⟩, .slice none 0 0] 29)) 100 #[.string s, .int .i64 0, .int .i64 0]
  simp only [World.size_alloc] at LR
  have Q := ((Below.refl w.heap.size w).alloc (Nat.le_refl _) (.cells #[.bool false, .string ⟨#[]⟩, .slice none 0 0] 29)).alloc (by simp) (.cells #[.string s, .int .i64 0, .int .i64 0] 100)
  have NX := Has.new (w.alloc (.cells #[.bool false, .string ⟨#[]⟩, .slice none 0 0] 29)) 100 #[.string ⟨#[]⟩, .int .i64 0, .int .i64 0]
  simp only [World.size_alloc] at NX
  have y0 := NX.cell 0 _ rfl
  have y1 := NX.cell 1 _ rfl
  have y2 := NX.cell 2 _ rfl
  have g0 := NX.frozen 0
  have g1 := NX.frozen 1
  have g2 := NX.frozen 2
  have hsz : ((w.alloc (.cells #[.bool false, .string ⟨#[]⟩, .slice none 0 0] 29)).alloc (.cells #[.string s, .int .i64 0, .int .i64 0] 100)).heap.size = w.heap.size + 2 := by simp
  have HC := item_ok s (w.heap.size + 1) hs 16 (by omega) s.size 0 0 _ LR (by omega) (by omega) (by omega)
  rw [show ((16 - 16 : Nat) : Int) = 0 by omega] at HC
  obtain ⟨r, hr⟩ : ∃ r, rdI s 16 s.size 0 0 = r := ⟨_, rfl⟩
  have hT : rdTop s = topR s.size r := by unfold rdTop; rw [hr]
  obtain ⟨R, hR⟩ : ∃ R, rdTop s = R := ⟨_, rfl⟩
  rw [hR] at hT ⊢
  rw [hr] at HC
  have hsI : (s.size : Int) ≤ 1099511627776 := by omega
  replace hr := Lib.hid hr
  replace hT := Lib.hid hT
  replace hR := Lib.hid hR
  replace HC := Lib.hid HC
  replace LS := Lib.hid LS
  replace LR := Lib.hid LR
  replace Q := Lib.hid Q
  replace NX := Lib.hid NX
  replace hsz := Lib.hid hsz
  replace hs := Lib.hid hs
  go_enter Tryz.func39, Tryz.ntmps39
  go_wp2_with fail
  refine HC.out.mono ?_
  generalize (w.alloc (.cells #[.bool false, .string ⟨#[]⟩, .slice none 0 0] 29)).alloc (.cells #[.string s, .int .i64 0, .int .i64 0] 100) = W1 at *
  clear y0 y1 y2 g0 g1 g2 NX HC
  rintro e2 W2 hP
  cases r with
  | no x p =>
    obtain ⟨rfl, hg2⟩ := hP
    have hR2 : R = .no x p := hT.out
    have Q2 : Below w.heap.size w W2 := Q.out.trans (⟨hg2.os, hg2.tape, hg2.output, hg2.size, fun k hk => hg2.block k (by have := hsz.out; omega) (fun e => by injection e with e; omega)⟩ : Below w.heap.size W1 W2)
    have LS2 := (LS.out.sr hg2 (by omega)).alloc (.cells #[.bool false, .string ⟨#[]⟩, .slice none 0 0] 29)
    have Q3 := Q2.alloc Q2.size (.cells #[.bool false, .string ⟨#[]⟩, .slice none 0 0] 29)
    have NY := Has.new W2 29 #[.bool false, .string ⟨#[]⟩, .slice none 0 0]
    have y0 := NY.cell 0 _ rfl
    have y1 := NY.cell 1 _ rfl
    have y2 := NY.cell 2 _ rfl
    have g0 := NY.frozen 0
    have g1 := NY.frozen 1
    have g2 := NY.frozen 2
    have f0 := LS2.frozen 0
    have x0 := LS2.cell 0 _ rfl
    have f1 := LS2.frozen 1
    have x1 := LS2.cell 1 _ rfl
    have f2 := LS2.frozen 2
    have x2 := LS2.cell 2 _ rfl

    have S := ((LS2.set 0 (.bool false)).set 1 (.string ⟨#[]⟩)).set 2 (.slice none 0 0)
    have z0 := Lib.hid (S.cell 0 _ rfl)
    have z1 := Lib.hid (S.cell 1 _ rfl)
    have z2 := Lib.hid (S.cell 2 _ rfl)
    have hE := Lib.hid (show ReadP w R (.returned (.tuple #[.agg #[.bool false, .string ⟨#[]⟩, .slice none 0 0], fltV x p])) _ from by
      rw [hR2]
      exact ⟨rfl, ((Q3.setCell (p := ⟨w.heap.size, 0, none⟩) (Nat.le_refl _) (.bool false)).setCell (p := ⟨w.heap.size, 1, none⟩) (Nat.le_refl _) (.string ⟨#[]⟩)).setCell (p := ⟨w.heap.size, 2, none⟩) (Nat.le_refl _) (.slice none 0 0)⟩)
    replace LS2 := Lib.hid LS2
    replace Q3 := Lib.hid Q3
    replace NY := Lib.hid NY
    clear hg2 Q2 S hR2
    go_wp2_with fail
    replace z0 := z0.out
    replace z1 := z1.out
    replace z2 := z2.out
    exact bodyPost_ret (v := .tuple #[.agg #[.bool false, .string ⟨#[]⟩, .slice none 0 0], fltV x p]) (by simp [results, Tryz.results39, go_sem, z0, z1, z2]) rfl hE.out
  | ok t a m =>
    obtain ⟨v, rfl, hv, hRd, hg2⟩ := hP
    obtain ⟨q, cap, rfl, _⟩ := hv.open
    have Q2 : Below w.heap.size w W2 := Q.out.trans (⟨hg2.os, hg2.tape, hg2.output, hg2.size, fun k hk => hg2.block k (by have := hsz.out; omega) (fun e => by injection e with e; omega)⟩ : Below w.heap.size W1 W2)
    have hw1 := hsz.out
    have LS2 := (LS.out.sr hg2 (by omega)).alloc (.cells #[.bool t.list, .string t.bytes, .slice q t.kids.length cap] 29)
    have LR2 := hRd.alloc (.cells #[.bool t.list, .string t.bytes, .slice q t.kids.length cap] 29)
    have Q3 := Q2.alloc Q2.size (.cells #[.bool t.list, .string t.bytes, .slice q t.kids.length cap] 29)
    have hv3 := hv.later ((Below.refl W2.heap.size W2).alloc (Nat.le_refl _) (.cells #[.bool t.list, .string t.bytes, .slice q t.kids.length cap] 29))
    have L5 := Has.new W2 29 #[.bool t.list, .string t.bytes, .slice q t.kids.length cap]
    have NY := Has.new W2 29 #[.bool false, .string ⟨#[]⟩, .slice none 0 0]
    have y0 := NY.cell 0 _ rfl
    have y1 := NY.cell 1 _ rfl
    have y2 := NY.cell 2 _ rfl
    have g0 := NY.frozen 0
    have g1 := NY.frozen 1
    have g2 := NY.frozen 2
    have hszW2 : w.heap.size + 1 < W2.heap.size := by have := hg2.size; omega
    replace NY := Lib.hid NY
    generalize t.list = tl at *
    generalize t.bytes = tb at *
    generalize t.kids.length = tn at *
    obtain ⟨W3, hW3⟩ : ∃ W3, W2.alloc (.cells #[.bool tl, .string tb, .slice q tn cap] 29) = W3 := ⟨_, rfl⟩
    rw [hW3] at LS2 LR2 Q3 hv3 L5
    have r1 := LR2.cell 1 (.int .i64 (a : Int)) rfl
    have c0 := L5.cell 0 (.bool tl) rfl
    have c1 := L5.cell 1 (.string tb) rfl
    have c2 := L5.cell 2 (.slice q tn cap) rfl
    clear hv hRd hg2
    by_cases hlt : a < s.size
    · have hR2 : R = .no 12 a := by rw [hT.out]; exact if_pos hlt
      have hltI : (a : Int) < (s.size : Int) := by omega
      have hb1 : decide (a < s.size) = true := decide_eq_true hlt
      have hE := Lib.hid (show ∀ y, Below w.heap.size w y → ReadP w R (.returned (.tuple #[.agg #[.bool false, .string ⟨#[]⟩, .slice none 0 0], fltV 12 a])) y from fun y h => by rw [hR2]; exact ⟨rfl, h⟩)
      replace Q := Lib.hid Q3
      replace LS := Lib.hid LS2
      replace LR := Lib.hid LR2
      clear hR2 Q2 Q3 LS2 LR2 hv3 L5 hlt
      go_wp2_with fail
      clear y0 y1 y2 g0 g1 g2 NY r1 c0 c1 c2 hW3
      refine wp_region_ghost [some (.agg #[.bool false, .string ⟨#[]⟩, .slice none 0 0]), some (.pointer (some ⟨w.heap.size + 1, 1, none⟩)), some (.int .i64 (a : Int)), some (.agg #[.int .i64 12, .int .i64 (a : Int)]), some (fltV 12 a), none, some (fltV 12 a)] [[], [], [1], [1, 2], [1, 2, 3], [0], [1, 2, 3, 4]]
        (fun _ _ y => Below w.heap.size w y ∧ Has y w.heap.size 29 #[.bool false, .string ⟨#[]⟩, .slice none 0 0] ∧ Has y (w.heap.size + 1) 100 (rdC s a m))
        (by kernel_rfl) (by kernel_rfl) (by kernel_rfl) ?_ ?_ ?_ ?_
      · rintro f g' wa wb ⟨h1, h2, h3⟩ hb
        exact ⟨h1.trans (hb.mono h1.size), h2.later hb, h3.later hb⟩
      · intro f f' g1 g1' wa h
        exact id
      · exact ⟨Q.out.drew, LS.out, LR.out⟩
      rintro f g' y ⟨h1, h2, h3⟩ Dn
      have c0 := h3.cell 1 (.int .i64 (a : Int)) rfl
      have f0 := h2.frozen 0
      have x0 := h2.cell 0 _ rfl
      have f1 := h2.frozen 1
      have x1 := h2.cell 1 _ rfl
      have f2 := h2.frozen 2
      have x2 := h2.cell 2 _ rfl
      replace h1 := Lib.hid h1
      replace h2 := Lib.hid h2
      replace h3 := Lib.hid h3
      refine GW.known _ rfl (fun hd' hf => ?_) ?_
      · go_wp2
        exact ⟨rfl, rfl, Below.refl _ _⟩
      simp only [Act.put, List.setIfInBounds_toArray, List.set_cons_succ, List.set_cons_zero]
      refine GW.known _ rfl (fun hd' hf => ?_) ?_
      · go_wp2
        exact ⟨rfl, rfl, Below.refl _ _⟩
      simp only [Act.put, List.setIfInBounds_toArray, List.set_cons_succ, List.set_cons_zero]
      refine GW.known _ rfl (fun hd' hf => ?_) ?_
      · go_wp2
        exact ⟨rfl, rfl, Below.refl _ _⟩
      simp only [Act.put, List.setIfInBounds_toArray, List.set_cons_succ, List.set_cons_zero]
      refine GW.known _ rfl (fun hd' hf => ?_) ?_
      · go_wp2
        exact ⟨rfl, rfl, Below.refl _ _⟩
      simp only [Act.put, List.setIfInBounds_toArray, List.set_cons_succ, List.set_cons_zero]
      refine GW.known _ rfl (fun hd' hf => ?_) ?_
      · go_wp2
        exact ⟨rfl, rfl, Below.refl _ _⟩
      simp only [Act.put, List.setIfInBounds_toArray, List.set_cons_succ, List.set_cons_zero]
      refine GW.open rfl (fun hd' hf => ?_) ?_
      · go_wp2
        exact ⟨rfl, (((h1.out.setCell (p := ⟨w.heap.size, 0, none⟩) (by simp) (.bool false)).setCell (p := ⟨w.heap.size, 1, none⟩) (by simp) (.string ⟨#[]⟩)).setCell (p := ⟨w.heap.size, 2, none⟩) (by simp) (.slice none 0 0)), (((h2.out.set 0 (.bool false)).set 1 (.string ⟨#[]⟩)).set 2 (.slice none 0 0)), (((h3.out.other (p := ⟨w.heap.size, 0, none⟩) (by simp <;> omega) (.bool false)).other (p := ⟨w.heap.size, 1, none⟩) (by simp <;> omega) (.string ⟨#[]⟩)).other (p := ⟨w.heap.size, 2, none⟩) (by simp <;> omega) (.slice none 0 0))⟩
      simp only [Act.put, List.setIfInBounds_toArray, List.set_cons_succ, List.set_cons_zero]
      refine GW.known _ rfl (fun hd' hf => ?_) ?_
      · go_wp2
        exact ⟨rfl, rfl, Below.refl _ _⟩
      simp only [Act.put, List.setIfInBounds_toArray, List.set_cons_succ, List.set_cons_zero]
      refine GW.nil (fun _ => ?_)
      have z0 := h2.out.cell 0 _ rfl
      have z1 := h2.out.cell 1 _ rfl
      have z2 := h2.out.cell 2 _ rfl
      have hEy := Lib.hid (hE.out y h1.out)
      go_wp2_with fail
      exact bodyPost_ret (v := .tuple #[.agg #[.bool false, .string ⟨#[]⟩, .slice none 0 0], fltV 12 a]) (by simp [results, Tryz.results39, go_sem, z0, z1, z2]) rfl hEy.out

    · have hR2 : R = .ok t a m := by rw [hT.out]; exact if_neg hlt
      have hb1 : decide (a < s.size) = false := by simpa using hlt
      have f0 := LS2.frozen 0
      have x0 := LS2.cell 0 _ rfl
      have f1 := LS2.frozen 1
      have x1 := LS2.cell 1 _ rfl
      have f2 := LS2.frozen 2
      have x2 := LS2.cell 2 _ rfl

      have S := ((LS2.set 0 (.bool tl)).set 1 (.string tb)).set 2 (.slice q tn cap)
      have z0 := Lib.hid (S.cell 0 _ rfl)
      have z1 := Lib.hid (S.cell 1 _ rfl)
      have z2 := Lib.hid (S.cell 2 _ rfl)
      have hE := Lib.hid (show ReadP w R (.returned (.tuple #[.agg #[.bool tl, .string tb, .slice q tn cap], .nilIface])) (((W3.setCell ⟨w.heap.size, 0, none⟩ (.bool tl)).setCell ⟨w.heap.size, 1, none⟩ (.string tb)).setCell ⟨w.heap.size, 2, none⟩ (.slice q tn cap)) from by
        rw [hR2]
        exact ⟨_, rfl, hv3.keep (fun b hb _ => (Below.heap_setCell _ _ _ b (by show b ≠ w.heap.size; omega)).trans ((Below.heap_setCell _ _ _ b (by show b ≠ w.heap.size; omega)).trans (Below.heap_setCell _ _ _ b (by show b ≠ w.heap.size; omega)))) (fun b hb _ => by omega), ((Q3.setCell (p := ⟨w.heap.size, 0, none⟩) (Nat.le_refl _) (.bool tl)).setCell (p := ⟨w.heap.size, 1, none⟩) (Nat.le_refl _) (.string tb)).setCell (p := ⟨w.heap.size, 2, none⟩) (Nat.le_refl _) (.slice q tn cap)⟩)
      replace LS2 := Lib.hid LS2
      replace L5 := Lib.hid L5
      replace LR2 := Lib.hid LR2
      replace Q3 := Lib.hid Q3
      clear hv3 Q2 S hR2
      replace hlt := Lib.hid hlt
      go_wp2_with fail
      replace z0 := z0.out
      replace z1 := z1.out
      replace z2 := z2.out
      exact bodyPost_ret (v := .tuple #[.agg #[.bool tl, .string tb, .slice q tn cap], .nilIface]) (by simp [results, Tryz.results39, go_sem, z0, z1, z2]) rfl hE.out

/-- What Decode comes to. -/
def DecP (W : World) (r : Rd It) (e : Ending) (W' : World) : Prop := match r with
  | .ok t _ _ => ∃ v, e = .returned (.tuple #[v, .int .i64 0, .int .i64 0]) ∧ ItemS W' (fun b => W.heap.size ≤ b) t v ∧ Below W.heap.size W W'
  | .no x p => e = .returned (.tuple #[.agg #[.bool false, .string ⟨#[]⟩, .slice none 0 0], .int .i64 (x : Int), .int .i64 (p : Int)]) ∧ Below W.heap.size W W'
/-- A text of any length, as one item. -/
def decR (s : ByteArray) : Rd It := if 1048576 < s.size then .no 2 0 else rdTop s

set_option maxRecDepth 100000 in
set_option maxHeartbeats 4000000 in
theorem decode_any (s : ByteArray) (hs : s.size ≤ 1099511627776) (w : World) (hT : TabE w) : Calls Tryz.prog 21 #[.string s] w (DecP w (decR s)) := by
  have hmx : Tryz.prog.follows .mixedOrders = true := by kernel_rfl
  have LS := Has.new w 29 #[.bool false, .string ⟨#[]⟩, .slice none 0 0]
  have Q := (Below.refl w.heap.size w).alloc (Nat.le_refl _) (.cells #[.bool false, .string ⟨#[]⟩, .slice none 0 0] 29)
  have hw0 := hT.2
  obtain ⟨W1, hW1⟩ : ∃ W1, w.alloc (.cells #[.bool false, .string ⟨#[]⟩, .slice none 0 0] 29) = W1 := ⟨_, rfl⟩
  have hsz : W1.heap.size = w.heap.size + 1 := by rw [← hW1]; simp
  rw [hW1] at LS Q
  obtain ⟨R, hR⟩ : ∃ R, decR s = R := ⟨_, rfl⟩
  rw [hR]
  unfold decR at hR
  have hsI : (s.size : Int) ≤ 1099511627776 := by omega
  by_cases hlong : 1048576 < s.size
  · rw [if_pos hlong] at hR
    have hb1 : decide (1048576 < (s.size : Int)) = true := decide_eq_true (by omega)
    have hlI : (1048576 : Int) < (s.size : Int) := by omega
    have hE := Lib.hid (show ∀ y, Below w.heap.size w y → DecP w R (.returned (.tuple #[.agg #[.bool false, .string ⟨#[]⟩, .slice none 0 0], .int .i64 2, .int .i64 0])) y from fun y h => by rw [← hR]; exact ⟨rfl, h⟩)
    have f0 := LS.frozen 0
    have x0 := LS.cell 0 _ rfl
    have f1 := LS.frozen 1
    have x1 := LS.cell 1 _ rfl
    have f2 := LS.frozen 2
    have x2 := LS.cell 2 _ rfl

    have S := Lib.hid (((LS.set 0 (.bool false)).set 1 (.string ⟨#[]⟩)).set 2 (.slice none 0 0))
    replace LS := Lib.hid LS
    replace Q := Lib.hid Q
    replace hlong := Lib.hid hlong
    replace hsz := Lib.hid hsz
    clear hR hT hs hb1
    go_enter Tryz.func21, Tryz.ntmps21
    go_wp2_with fail
    have z0 := S.out.cell 0 _ rfl
    have z1 := S.out.cell 1 _ rfl
    have z2 := S.out.cell 2 _ rfl
    exact bodyPost_ret (v := .tuple #[.agg #[.bool false, .string ⟨#[]⟩, .slice none 0 0], .int .i64 2, .int .i64 0]) (by simp [results, Tryz.results21, go_sem, z0, z1, z2]) rfl (hE.out _ (((Q.out.setCell (p := ⟨w.heap.size, 0, none⟩) (by simp) (.bool false)).setCell (p := ⟨w.heap.size, 1, none⟩) (by simp) (.string ⟨#[]⟩)).setCell (p := ⟨w.heap.size, 2, none⟩) (by simp) (.slice none 0 0)))
  · rw [if_neg hlong] at hR
    have hlI : ¬ (1048576 : Int) < (s.size : Int) := by omega
    have HC := read_any s hs W1
    rw [hR] at HC
    replace HC := Lib.hid HC
    replace LS := Lib.hid LS
    replace Q := Lib.hid Q
    replace hT := Lib.hid hT
    replace hsz := Lib.hid hsz
    replace hR := Lib.hid hR
    replace hlong := Lib.hid hlong
    replace hs := Lib.hid hs
    go_enter Tryz.func21, Tryz.ntmps21
    go_wp2_with fail
    refine HC.out.mono ?_
    rintro e2 W2 hP
    clear hW1 HC
    cases R with
    | ok t a m =>
      obtain ⟨v, rfl, hv, hb2⟩ := hP
      obtain ⟨q, cap, rfl, _⟩ := hv.open
      have Q2 := Q.out.trans (hb2.mono Q.out.size)
      have NY := Has.new W2 29 #[.bool false, .string ⟨#[]⟩, .slice none 0 0]
      have y0 := NY.cell 0 _ rfl
      have y1 := NY.cell 1 _ rfl
      have y2 := NY.cell 2 _ rfl
      have g0 := NY.frozen 0
      have g1 := NY.frozen 1
      have g2 := NY.frozen 2
      generalize t.list = tl at *
      generalize t.bytes = tb at *
      generalize t.kids.length = tn at *
      have qA := ((Below.refl W2.heap.size W2).alloc (Nat.le_refl _) (.cells #[.bool tl, .string tb, .slice q tn cap] 29)).alloc (by simp) (.cells #[.int .i64 0, .int .i64 0] 69)
      have LS3 := (LS.out.later hb2).later qA
      have Q3 := Q2.trans (qA.mono Q2.size)
      have hv3 := hv.later qA
      have L5 := (Has.new W2 29 #[.bool tl, .string tb, .slice q tn cap]).alloc (.cells #[.int .i64 0, .int .i64 0] 69)
      have hb2s := hb2.size
      obtain ⟨W3, hW3⟩ : ∃ W3, (W2.alloc (.cells #[.bool tl, .string tb, .slice q tn cap] 29)).alloc (.cells #[.int .i64 0, .int .i64 0] 69) = W3 := ⟨_, rfl⟩
      rw [hW3] at LS3 Q3 hv3 L5
      have c0 := L5.cell 0 (.bool tl) rfl
      have c1 := L5.cell 1 (.string tb) rfl
      have c2 := L5.cell 2 (.slice q tn cap) rfl
      have f0 := LS3.frozen 0
      have x0 := LS3.cell 0 _ rfl
      have f1 := LS3.frozen 1
      have x1 := LS3.cell 1 _ rfl
      have f2 := LS3.frozen 2
      have x2 := LS3.cell 2 _ rfl

      have S := ((LS3.set 0 (.bool tl)).set 1 (.string tb)).set 2 (.slice q tn cap)
      have z0 := Lib.hid (S.cell 0 _ rfl)
      have z1 := Lib.hid (S.cell 1 _ rfl)
      have z2 := Lib.hid (S.cell 2 _ rfl)
      have hE := Lib.hid (show DecP w (.ok t a m) (.returned (.tuple #[.agg #[.bool tl, .string tb, .slice q tn cap], .int .i64 0, .int .i64 0])) (((W3.setCell ⟨w.heap.size, 0, none⟩ (.bool tl)).setCell ⟨w.heap.size, 1, none⟩ (.string tb)).setCell ⟨w.heap.size, 2, none⟩ (.slice q tn cap)) from
        ⟨_, rfl, hv3.keep (fun b hb _ => (Below.heap_setCell _ _ _ b (by show b ≠ w.heap.size; have := hsz.out; omega)).trans ((Below.heap_setCell _ _ _ b (by show b ≠ w.heap.size; have := hsz.out; omega)).trans (Below.heap_setCell _ _ _ b (by show b ≠ w.heap.size; have := hsz.out; omega)))) (fun b hb _ => by have := hsz.out; omega), ((Q3.setCell (p := ⟨w.heap.size, 0, none⟩) (Nat.le_refl _) (.bool tl)).setCell (p := ⟨w.heap.size, 1, none⟩) (Nat.le_refl _) (.string tb)).setCell (p := ⟨w.heap.size, 2, none⟩) (Nat.le_refl _) (.slice q tn cap)⟩)
      have HAS := Lib.hid as_nil
      replace NY := Lib.hid NY
      replace LS3 := Lib.hid LS3
      replace L5 := Lib.hid L5
      replace Q3 := Lib.hid Q3
      clear hv hv3 hb2 Q2 qA S
      go_wp2_with fail
      refine (HAS.out _ _).mono ?_
      rintro _ W4 ⟨rfl, rfl⟩
      go_wp2_with fail
      replace z0 := z0.out
      replace z1 := z1.out
      replace z2 := z2.out
      exact bodyPost_ret (v := .tuple #[.agg #[.bool tl, .string tb, .slice q tn cap], .int .i64 0, .int .i64 0]) (by simp [results, Tryz.results21, go_sem, z0, z1, z2]) rfl hE.out
    | no x p =>
      obtain ⟨rfl, hb2⟩ := hP
      have Q2 := Q.out.trans (hb2.mono Q.out.size)
      have NY := Has.new W2 29 #[.bool false, .string ⟨#[]⟩, .slice none 0 0]
      have y0 := NY.cell 0 _ rfl
      have y1 := NY.cell 1 _ rfl
      have y2 := NY.cell 2 _ rfl
      have g0 := NY.frozen 0
      have g1 := NY.frozen 1
      have g2 := NY.frozen 2
      have qA := ((Below.refl W2.heap.size W2).alloc (Nat.le_refl _) (.cells #[.bool false, .string ⟨#[]⟩, .slice none 0 0] 29)).alloc (by simp) (.cells #[.int .i64 0, .int .i64 0] 69)
      have LS3 := (LS.out.later hb2).later qA
      have Q3 := Q2.trans (qA.mono Q2.size)
      have LF := Has.new (W2.alloc (.cells #[.bool false, .string ⟨#[]⟩, .slice none 0 0] 29)) 69 #[.int .i64 0, .int .i64 0]
      rw [World.size_alloc] at LF
      have hT3 := hT.out.later Q3
      have hb2s := hb2.size
      have HAS := as_flt (x : Int) (p : Int) 0 0 (W2.heap.size + 1) _ hT3 LF (by omega)
      have hfb := Lib.hid (show w.heap.size < W2.heap.size + 1 by have := hsz.out; omega)
      replace HAS := Lib.hid HAS
      replace NY := Lib.hid NY
      replace LF := Lib.hid LF
      replace hT3 := Lib.hid hT3
      clear hb2 Q2 qA
      go_wp2_with fail
      refine HAS.out.mono ?_
      rintro _ W4 ⟨rfl, hF, hG⟩
      have hG2 : Below w.heap.size w W4 := Q3.trans ⟨hG.os, hG.tape, hG.output, hG.size, fun k hk => hG.block k (by have := Q3.size; omega) (fun e => by injection e with e; have := hfb.out; omega)⟩
      replace LS := Lib.hid (LS3.sr' hG (by have := hfb.out; omega))
      replace LR := Lib.hid hF
      replace Q := Lib.hid hG2
      have hE := Lib.hid (show ∀ y, Below w.heap.size w y → DecP w (.no x p) (.returned (.tuple #[.agg #[.bool false, .string ⟨#[]⟩, .slice none 0 0], .int .i64 (x : Int), .int .i64 (p : Int)])) y from fun y h => ⟨rfl, h⟩)
      clear hF hG hG2 LS3 Q3 y0 y1 y2 g0 g1 g2 NY HAS hT3
      have hfb2 := hfb.out
      go_wp2_with fail
      refine wp_region_ghost [some (.agg #[.bool false, .string ⟨#[]⟩, .slice none 0 0]), some (.pointer (some ⟨W2.heap.size + 1, 0, none⟩)), some (.int .i64 (x : Int)), some (.pointer (some ⟨W2.heap.size + 1, 1, none⟩)), some (.int .i64 (p : Int)), none, some (.int .i64 (x : Int)), some (.int .i64 (p : Int))] [[], [], [1], [], [3], [0], [1, 2], [3, 4]]
        (fun _ _ y => Below w.heap.size w y ∧ Has y w.heap.size 29 #[.bool false, .string ⟨#[]⟩, .slice none 0 0] ∧ Has y (W2.heap.size + 1) 69 #[.int .i64 (x : Int), .int .i64 (p : Int)])
        (by kernel_rfl) (by kernel_rfl) (by kernel_rfl) ?_ ?_ ?_ ?_
      · rintro f g' wa wb ⟨h1, h2, h3⟩ hb
        exact ⟨h1.trans (hb.mono h1.size), h2.later hb, h3.later hb⟩
      · intro f f' g1 g1' wa h
        exact id
      · exact ⟨Q.out.drew, LS.out, LR.out⟩
      rintro f g' y ⟨h1, h2, h3⟩ Dn
      have c0 := h3.cell 0 (.int .i64 (x : Int)) rfl
      have c1 := h3.cell 1 (.int .i64 (p : Int)) rfl
      have f0 := h2.frozen 0
      have x0 := h2.cell 0 _ rfl
      have f1 := h2.frozen 1
      have x1 := h2.cell 1 _ rfl
      have f2 := h2.frozen 2
      have x2 := h2.cell 2 _ rfl
      replace h1 := Lib.hid h1
      replace h2 := Lib.hid h2
      replace h3 := Lib.hid h3
      refine GW.known _ rfl (fun hd' hf => ?_) ?_
      · go_wp2
        exact ⟨rfl, rfl, Below.refl _ _⟩
      simp only [Act.put, List.setIfInBounds_toArray, List.set_cons_succ, List.set_cons_zero]
      refine GW.known _ rfl (fun hd' hf => ?_) ?_
      · go_wp2
        exact ⟨rfl, rfl, Below.refl _ _⟩
      simp only [Act.put, List.setIfInBounds_toArray, List.set_cons_succ, List.set_cons_zero]
      refine GW.known _ rfl (fun hd' hf => ?_) ?_
      · go_wp2
        exact ⟨rfl, rfl, Below.refl _ _⟩
      simp only [Act.put, List.setIfInBounds_toArray, List.set_cons_succ, List.set_cons_zero]
      refine GW.known _ rfl (fun hd' hf => ?_) ?_
      · go_wp2
        exact ⟨rfl, rfl, Below.refl _ _⟩
      simp only [Act.put, List.setIfInBounds_toArray, List.set_cons_succ, List.set_cons_zero]
      refine GW.known _ rfl (fun hd' hf => ?_) ?_
      · go_wp2
        exact ⟨rfl, rfl, Below.refl _ _⟩
      simp only [Act.put, List.setIfInBounds_toArray, List.set_cons_succ, List.set_cons_zero]
      refine GW.open rfl (fun hd' hf => ?_) ?_
      · go_wp2
        exact ⟨rfl, (((h1.out.setCell (p := ⟨w.heap.size, 0, none⟩) (by simp) (.bool false)).setCell (p := ⟨w.heap.size, 1, none⟩) (by simp) (.string ⟨#[]⟩)).setCell (p := ⟨w.heap.size, 2, none⟩) (by simp) (.slice none 0 0)), (((h2.out.set 0 (.bool false)).set 1 (.string ⟨#[]⟩)).set 2 (.slice none 0 0)), (((h3.out.other (p := ⟨w.heap.size, 0, none⟩) (by simp <;> omega) (.bool false)).other (p := ⟨w.heap.size, 1, none⟩) (by simp <;> omega) (.string ⟨#[]⟩)).other (p := ⟨w.heap.size, 2, none⟩) (by simp <;> omega) (.slice none 0 0))⟩
      simp only [Act.put, List.setIfInBounds_toArray, List.set_cons_succ, List.set_cons_zero]
      refine GW.known _ rfl (fun hd' hf => ?_) ?_
      · go_wp2
        exact ⟨rfl, rfl, Below.refl _ _⟩
      simp only [Act.put, List.setIfInBounds_toArray, List.set_cons_succ, List.set_cons_zero]
      refine GW.known _ rfl (fun hd' hf => ?_) ?_
      · go_wp2
        exact ⟨rfl, rfl, Below.refl _ _⟩
      simp only [Act.put, List.setIfInBounds_toArray, List.set_cons_succ, List.set_cons_zero]
      refine GW.nil (fun _ => ?_)
      have z0 := h2.out.cell 0 _ rfl
      have z1 := h2.out.cell 1 _ rfl
      have z2 := h2.out.cell 2 _ rfl
      have hEy := Lib.hid (hE.out y h1.out)
      go_wp2_with fail
      exact bodyPost_ret (v := .tuple #[.agg #[.bool false, .string ⟨#[]⟩, .slice none 0 0], .int .i64 (x : Int), .int .i64 (p : Int)]) (by simp [results, Tryz.results21, go_sem, z0, z1, z2]) rfl hEy.out

end Go.Proofs.YtbbpmcebakckaaaGreatDoor

/- Encode. Conditions: the item lies in memory; it holds no more than 2^40 items, and 2^61 bytes. -/
namespace Go.Proofs.YtbbpmcebakckaaaGreatDoor
open Go Go.RowKit
attribute [local go_sem] Oper.semAt_some Grows wide_fn

theorem strOf_list (l : List UInt8) : strOfNums (l.map fun b => (b.toNat : Int)) = ⟨l.toArray⟩ := by
  simp [strOfNums, Function.comp_def]
theorem conv_row {W : World} {base : Nat} {v : Value} {l : List UInt8} (h : RowB W base v l) : (convert 49 9 v).run Tryz.prog W = .ok (strV l) W := by
  rcases h.2 with ⟨rfl, h0⟩ | ⟨g, cap, cur, rfl, hbg, hg, hnc, hcm, hcs, htake⟩
  · have hl : l = [] := List.eq_nil_of_length_eq_zero h0
    subst hl
    exact run_convert_bytes_nil (P := Tryz.prog) W 49 5 Tryz.underlying49 Tryz.underlying5 0 0 9 Tryz.underlying9
  · have := run_convert_bytes_arg (P := Tryz.prog) W 49 5 Tryz.underlying49 Tryz.underlying5 g 0 l.length cap (l.map fun b => (b.toNat : Int)) (by simp) (fun i hi => by
      have := World.ownsRow.cells h (g := g) rfl i (.int .u8 ((l.map fun b => (b.toNat : Int)).getD i 0)) (by
        unfold cellsB
        rw [List.getElem?_map, List.getElem?_eq_getElem hi]
        simp [List.getD, List.getElem?_eq_getElem hi])
      rw [Nat.zero_add]
      have ha : (⟨g, 0, none⟩ : Addr).add i = ⟨g, i, none⟩ := by unfold Addr.add; split <;> simp_all
      rw [ha] at this
      exact this) 9 Tryz.underlying9
    rw [strOf_list] at this
    exact this

/-- What Encode answers: the bytes and the error. -/
noncomputable def encE (t : It) : Nat := if okI t = true then (if (encI t).length ≤ 1048576 then 0 else 2) else 1
noncomputable def encS (t : It) : List UInt8 := if encE t = 0 then encI t else []
theorem encE_bad {t : It} (h : okI t = false) : encE t = 1 := by unfold encE; rw [if_neg (by rw [h]; decide)]
theorem encE_long {t : It} (h : okI t = true) (hl : ¬ (encI t).length ≤ 1048576) : encE t = 2 := by unfold encE; rw [if_pos h, if_neg hl]
theorem encE_good {t : It} (h : okI t = true) (hl : (encI t).length ≤ 1048576) : encE t = 0 := by unfold encE; rw [if_pos h, if_pos hl]
theorem encS_good {t : It} (h : encE t = 0) : encS t = encI t := if_pos h
theorem encS_bad {t : It} (h : encE t ≠ 0) : encS t = [] := if_neg h
theorem okI_right {t : It} (h : okI t = true) : countI t ≤ 5000 ∧ RightI 16 t := by
  unfold okI at h
  rw [Bool.and_eq_true, decide_eq_true_eq, rightB_iff] at h
  exact h

set_option maxRecDepth 100000 in
set_option maxHeartbeats 4000000 in
theorem encode_any (t : It) (hc : countI t ≤ 1099511627776) (hsz : (encI t).length ≤ 2305843009213693952) (v : Value) (w : World) (ht : ItemAt w t v) :
    Calls Tryz.prog 10 #[v] w fun e w' => e = .returned (.tuple #[strV (encS t), .int .i64 (encE t : Int)]) ∧ Below w.heap.size w w' := by
  have hmx : Tryz.prog.follows .mixedOrders = true := by kernel_rfl
  obtain ⟨a, cap, rfl, hn, hs, hk⟩ := ht.open
  clear hk hs hn
  have HT := Lib.hid ht
  have HRT := Lib.hid (fun W (hW : Below w.heap.size w W) => right_any t _ W (ht.later hW) hc)
  have HSZ := Lib.hid (fun d (hr : RightI d t) W (hW : Below w.heap.size w W) => size_any t d hr hsz _ W (ht.later hW))
  have HGA := Lib.hid (fun (hl : (encI t).length ≤ 1048576) d (hr : RightI d t) (W : World) (hW : Below w.heap.size w W) Bx hX => gatherB_any t d hr hc (by omega) t.list t.bytes a t.kids.length cap Bx w W ht hW hX)
  have HAL := Lib.hid (all_any (.bool t.list) (.string t.bytes) (.slice a t.kids.length cap))
  have Q := (Below.refl w.heap.size w).alloc (Nat.le_refl _) (.cells #[.bool t.list, .string t.bytes, .slice a t.kids.length cap] 29)
  have LX := Has.new w 29 #[.bool t.list, .string t.bytes, .slice a t.kids.length cap]
  clear ht hc hsz
  generalize t.bytes = b at *
  generalize t.kids.length = n at *
  generalize t.list = tl at *
  obtain ⟨W1, hW1⟩ : ∃ W1, w.alloc (.cells #[.bool tl, .string b, .slice a n cap] 29) = W1 := ⟨_, rfl⟩
  rw [hW1] at Q LX
  have c0 := LX.cell 0 _ rfl
  have c1 := LX.cell 1 _ rfl
  have c2 := LX.cell 2 _ rfl
  replace LX := Lib.hid LX
  replace Q := Lib.hid Q
  go_enter Tryz.func10, Tryz.ntmps10
  go_wp2_with fail
  refine (HRT.out _ Q.out).mono ?_
  rintro _ W2 ⟨rfl, q⟩
  replace LX := Lib.hid (LX.out.later q)
  replace Q := Lib.hid (Q.out.trans (q.mono Q.out.size))
  clear q c0 c1 c2 hW1 HRT
  have c0 := LX.out.cell 0 _ rfl
  have c1 := LX.out.cell 1 _ rfl
  have c2 := LX.out.cell 2 _ rfl
  rcases hok : okI t with _ | _
  · have hE := Lib.hid (encE_bad hok)
    have hS := Lib.hid (encS_bad (t := t) (by rw [encE_bad hok]; decide))
    replace hok := Lib.hid hok
    go_wp2_with fail
    go_ret2
    exact ⟨by rw [hE.out, hS.out]; rfl, Q.out⟩
  · obtain ⟨_, hr⟩ := okI_right hok
    have hokH := Lib.hid hok
    have HC := Lib.hid (HSZ.out 16 hr _ Q.out)
    have hL0 : (0 : Int) ≤ (((encI t).length : Nat) : Int) := Int.natCast_nonneg _
    have HRR := Lib.hid hr
    clear hok hr HSZ
    go_wp2_with fail
    refine HC.out.mono ?_
    rintro _ W3 ⟨rfl, q⟩
    replace LX := Lib.hid (LX.out.later q)
    replace Q := Lib.hid (Q.out.trans (q.mono Q.out.size))
    clear q c0 c1 c2 HC
    have c0 := LX.out.cell 0 _ rfl
    have c1 := LX.out.cell 1 _ rfl
    have c2 := LX.out.cell 2 _ rfl
    by_cases hl : (encI t).length ≤ 1048576
    · have hE := Lib.hid (encE_good hokH.out hl)
      have hS := Lib.hid (encS_good (encE_good hokH.out hl))
      have HG := Lib.hid (HGA.out hl 16 HRR.out)
      have hlI : (((encI t).length : Nat) : Int) ≤ 1048576 := by omega
      have hb1 : decide (1048576 < (((encI t).length : Nat) : Int)) = false := by simpa using hlI
      replace hl := Lib.hid hl
      generalize (encI t).length = L at *
      go_wp2_with fail
      refine (HAL.out _).mono ?_
      rintro _ W4 ⟨rfl, hW4⟩
      have q4 : Below W3.heap.size W3 W4 := by rw [← hW4]; exact (Below.refl _ _).alloc (Nat.le_refl _) _
      have LX4 : Has W4 W3.heap.size 29 #[.bool tl, .string b, .slice a n cap] := by rw [← hW4]; exact Has.new _ _ _
      have Q4 := Q.out.trans (q4.mono Q.out.size)
      have HC := Lib.hid (HG.out W4 Q4 _ LX4)
      replace Q4 := Lib.hid Q4
      clear hW4 q4 LX4 HG HGA HAL c0 c1 c2
      go_wp2_with fail
      refine HC.out.mono ?_
      rintro _ W5 ⟨v5, rfl, hrow, hb5⟩
      have hcv := conv_row hrow
      have Q5 := Lib.hid (Q4.out.trans (hb5.mono Q4.out.size))
      rw [← hS.out] at hcv
      clear hrow hb5 HC
      go_wp2_with fail
      go_ret2
      exact ⟨by rw [hE.out]; rfl, Q5.out⟩
    · have hE := Lib.hid (encE_long hokH.out hl)
      have hS := Lib.hid (encS_bad (t := t) (by rw [encE_long hokH.out hl]; decide))
      have hb1 : decide (1048576 < (((encI t).length : Nat) : Int)) = true := decide_eq_true (by omega)
      replace hl := Lib.hid hl
      generalize (encI t).length = L at *
      go_wp2_with fail
      go_ret2
      exact ⟨by rw [hE.out, hS.out]; rfl, Q.out⟩
end Go.Proofs.YtbbpmcebakckaaaGreatDoor

/- What the laws' first call comes to: items and texts that are known. Conditions: none. -/
namespace Go.Proofs.YtbbpmcebakckaaaGreatDoor
open Go Go.RowKit

def catI : It := .mk false ⟨#[99, 97, 116]⟩ []
def dogI : It := .mk false ⟨#[100, 111, 103]⟩ []
def xI : It := .mk true ⟨#[]⟩ [catI, dogI]
def xL : List UInt8 := [200, 131, 99, 97, 116, 131, 100, 111, 103]
set_option maxRecDepth 100000 in
theorem dec_x : decR ⟨#[200, 131, 99, 97, 116, 131, 100, 111, 103]⟩ = .ok xI 9 3 := by
  show topR 9 (rdItem 5000 xL 16 9 0 0) = _
  rfl
theorem dec_a : decR ⟨#[129, 5]⟩ = .no 11 0 := by rfl
theorem dec_b : decR ⟨#[193]⟩ = .no 10 0 := by rfl
theorem dec_c : decR ⟨#[5, 6]⟩ = .no 12 1 := by rfl
theorem encI_x : encI xI = xL := by
  simp [encI, encL, xI, catI, dogI, bareB, headL, xL]
theorem countI_x : countI xI = 3 := by simp [countI, countL, xI, catI, dogI]
theorem right_x : RightI 16 xI := by
  simp [RightI, xI, catI, dogI, It.list, It.kids, It.bytes]
theorem ok_x : okI xI = true := by
  unfold okI
  rw [countI_x, (rightB_iff 16 xI).2 right_x]
  rfl
theorem encE_x : encE xI = 0 := encE_good ok_x (by rw [encI_x]; decide)
theorem encS_x : encS xI = xL := by rw [encS_good encE_x, encI_x]
theorem right_not : okI (.mk true ⟨#[97]⟩ []) = false := by
  unfold okI
  rw [rightB_false ?_]
  · simp
  · intro h
    have := h.1 rfl
    exact absurd this (by decide)
theorem digs_1024 : digs 1024 = [4, 0] := by
  rw [digs, dif_neg (by decide), show 1024 / 256 = 4 from rfl, digs, dif_neg (by decide), show 4 / 256 = 0 from rfl, digs, dif_pos rfl]
  rfl
theorem same_self (t : It) : sameI t t = true := by unfold sameI; exact @decide_eq_true _ (Classical.propDecidable _) rfl
theorem same_not {t u : It} (h : t ≠ u) : sameI t u = false := by unfold sameI; exact @decide_eq_false _ (Classical.propDecidable _) h
theorem valB_x : valB xI = false := same_not (fun h => by injection h with h; cases h)
theorem valN_x : valN xI = 0 := by unfold valN; rw [valB_x]; rfl
theorem fromB_digs {a : Nat} (ha : W256 a) : fromB (digs a) = a := (fromB_short (digs_w ha)).trans (val256_digs a)
theorem valW_digs {a : Nat} (ha : W256 a) : valW (.mk false ⟨(digs a).toArray⟩ []) = a := fromB_digs ha
theorem valB_digs {a : Nat} (ha : W256 a) : valB (.mk false ⟨(digs a).toArray⟩ []) = true := by
  unfold valB
  rw [valW_digs ha]
  exact same_self _
theorem valN_digs {a : Nat} (ha : W256 a) : valN (.mk false ⟨(digs a).toArray⟩ []) = a := by
  unfold valN
  rw [valB_digs ha, valW_digs ha]
  rfl
end Go.Proofs.YtbbpmcebakckaaaGreatDoor
