import Derived.Test.YtbbpmcebakckaaaGreatDoorU11
import Derived.Test.YtbbpmcebakckaaaGreatDoorU05
import Derived.Test.YtbbpmcebakckaaaGreatDoorU03
import Derived.Test.YtbbpmcebakckaaaGreatDoorU09
/- The reader: text. Conditions: the reader lies in memory; places are in reach. -/
namespace Go.Proofs.YtbbpmcebakckaaaGreatDoor
open Go Go.RowKit
attribute [local go_sem] Oper.semAt_some Grows wide_fn

/-- A text at a place, one item more being begun. -/
def rdText (s : List UInt8) (e a m : Nat) : Rd It :=
  if byteAt s a < 128 then .ok (.mk false ⟨((s.drop a).take 1).toArray⟩ []) (a + 1) m
  else match rdHead s (byteAt s a - 128) e a with
    | .no x p => .no x p
    | .ok n fr _ => if bareB ((s.drop fr).take n) then .no 11 a else .ok (.mk false ⟨((s.drop fr).take n).toArray⟩ []) (fr + n) m

/-- What the reading of an item comes to. -/
def ItP (s : ByteArray) (R : Nat) (W : World) (r : Rd It) (e : Ending) (W' : World) : Prop :=
  match r with
  | .ok t a' m' => ∃ v, e = .returned (.tuple #[v, .nilIface]) ∧ ItemS W' (fun b => W.heap.size ≤ b) t v ∧ Has W' R 100 (rdC s a' m') ∧ W.grownBy W' (some R)
  | .no x p => e = .returned (.tuple #[.agg #[.bool false, .string ⟨#[]⟩, .slice none 0 0], fltV x p]) ∧ W.grownBy W' (some R)

theorem txtS (b : ByteArray) (hb : b.size ≤ 140737488355328) (W : World) (S : Nat → Prop) : ItemS W S (.mk false b []) (.agg #[.bool false, .string b, .slice none 0 0]) := by
  unfold ItemS
  exact ⟨none, 0, rfl, by simp, hb, .inl rfl⟩
theorem extract_mk' (s : ByteArray) (a b : Nat) : s.extract a b = ⟨((s.data.toList.drop a).take (b - a)).toArray⟩ := by
  apply ByteArray.ext
  apply Array.toList_inj.1
  rw [extract_list]
theorem grown_set' {w A : World} {S : Nat} (h : w.grownBy A (some S)) (j : Nat) (u : Value) : w.grownBy (A.setCell ⟨S, j, none⟩ u) (some S) := grown_set h (.inl rfl) u

set_option maxRecDepth 100000 in
set_option maxHeartbeats 4000000 in
theorem text_small (s : ByteArray) (a m e c R : Nat) (w : World) (hR : Has w R 100 (rdC s a m)) (hs : s.size ≤ 1099511627776) (ha : a < s.size) (hc : c < 128) :
    Calls Tryz.prog 76 #[.pointer (some ⟨R, 0, none⟩), .int .i64 (c : Int), .int .i64 (e : Int)] w (ItP s R w (.ok (.mk false ⟨((s.data.toList.drop a).take 1).toArray⟩ []) (a + 1) m)) := by
  have hmx : Tryz.prog.follows .mixedOrders = true := by kernel_rfl
  have hex := extract_mk' s a (a + 1)
  rw [show a + 1 - a = 1 by omega] at hex
  rw [← hex]
  have hexs : (s.extract a (a + 1)).size ≤ 140737488355328 := by rw [ByteArray.size_extract]; omega
  have t1 : ((a : Int) + 1).toNat = a + 1 := by omega
  have t2 : ((a : Int)).toNat = a := by omega
  have hsl : ∀ W : World, (Instr.slice 9 (.string s) (some (.int .i64 (a : Int))) (some (.int .i64 ((a : Int) + 1))) none).run Tryz.prog W = .ok (.string (s.extract a (a + 1))) W := fun W => by
    rw [run_slice_string_if W _ _ _ _ _ _ Tryz.underlying9, if_pos (by omega), if_pos (by omega), t1, t2]
  clear hex
  generalize s.extract a (a + 1) = ex at *
  have haI0 : (0 : Int) ≤ (a : Int) := by omega
  have haI1 : (a : Int) ≤ 1099511627776 := by omega
  have hcI : (c : Int) < 128 := by omega
  have LS := Has.new w 29 #[.bool false, .string ⟨#[]⟩, .slice none 0 0]
  have LR := hR.alloc (.cells #[.bool false, .string ⟨#[]⟩, .slice none 0 0] 29)
  have Q := (Below.refl w.heap.size w).alloc (Nat.le_refl _) (.cells #[.bool false, .string ⟨#[]⟩, .slice none 0 0] 29)
  have hRlt := hR.lt
  obtain ⟨W1, hW1⟩ : ∃ W1, w.alloc (.cells #[.bool false, .string ⟨#[]⟩, .slice none 0 0] 29) = W1 := ⟨_, rfl⟩
  rw [hW1] at LS LR Q
  have c1 := LR.cell 1 (.int .i64 (a : Int)) rfl
  have f1 := LR.frozen 1
  have LR2 := LR.set 1 (.int .i64 ((a : Int) + 1))
  have LS2 := LS.other (p := ⟨R, 1, none⟩) (by simp; omega) (.int .i64 ((a : Int) + 1))
  have G2 := grown_set' (grown_of_below Q (some R)) 1 (.int .i64 ((a : Int) + 1))
  have hfin := Lib.hid (show ∀ y, Has y R 100 #[.string s, .int .i64 ((a : Int) + 1), .int .i64 (m : Int)] → w.grownBy y (some R) → ItP s R w (.ok (.mk false ex []) (a + 1) m) (.returned (.tuple #[.agg #[.bool false, .string ex, .slice none 0 0], .nilIface])) y from fun y h1 h2 =>
    ⟨_, rfl, txtS ex hexs y _, by show Has y R _ #[.string s, .int .i64 ((a + 1 : Nat) : Int), .int .i64 (m : Int)]; rw [Int.natCast_add]; exact h1, h2⟩)
  replace LR := Lib.hid LR
  replace LS := Lib.hid LS
  clear hR hs ha hc t1 t2 hexs
  go_enter Tryz.func76, Tryz.ntmps76
  go_wp2_with fail
  obtain ⟨W2, hW2⟩ : ∃ W2, W1.setCell ⟨R, 1, none⟩ (.int .i64 ((a : Int) + 1)) = W2 := ⟨_, rfl⟩
  rw [hW2] at LR2 LS2 G2 ⊢
  clear c1 f1 hW1 hW2
  refine wp_region_ghost [some (.pointer (some ⟨R, 0, none⟩)), some (.pointer (some ⟨R, 0, none⟩)), some (.pointer (some ⟨R, 0, none⟩)), some (.string s), some (.pointer (some ⟨R, 0, none⟩)), some (.pointer (some ⟨R, 0, none⟩)), some (.pointer (some ⟨R, 1, none⟩)), some (.int .i64 ((a : Int) + 1)), some (.int .i64 (a : Int)), some (.pointer (some ⟨R, 0, none⟩)), some (.pointer (some ⟨R, 0, none⟩)), some (.pointer (some ⟨R, 1, none⟩)), some (.int .i64 ((a : Int) + 1)), some (.string ex), some (.agg #[.bool false, .string ex, .slice none 0 0]), none, some (.nilIface)] [[], [0], [0, 1], [0, 1, 2], [], [4], [4, 5], [4, 5, 6], [4, 5, 6, 7], [], [9], [9, 10], [9, 10, 11], [0, 1, 2, 3, 4, 5, 6, 7, 8, 9, 10, 11, 12], [0, 1, 2, 3, 4, 5, 6, 7, 8, 9, 10, 11, 12, 13], [0, 1, 2, 3, 4, 5, 6, 7, 8, 9, 10, 11, 12, 13, 14], []]
    (fun f _ y => w.grownBy y (some R) ∧ Has y w.heap.size 29 (cellsIf (f 15) #[.bool false, .string ex, .slice none 0 0] #[.bool false, .string ⟨#[]⟩, .slice none 0 0]) ∧ Has y R 100 #[.string s, .int .i64 ((a : Int) + 1), .int .i64 (m : Int)])
    (by kernel_rfl) (by kernel_rfl) (by kernel_rfl) ?_ ?_ ?_ ?_
  · rintro f g' wa wb ⟨h1, h2, h3⟩ hb
    exact ⟨grown_then_below h1 hb, h2.later hb, h3.later hb⟩
  · intro f f' g1 g1' wa h
    have := h 15 rfl
    rw [this.1]
    exact id
  · exact ⟨grown_then_below G2 (Below.refl _ _).drew, LS2, LR2⟩
  rintro f g' y ⟨h1, h2, h3⟩ Dn
  have c0 := h3.cell 0 (.string s) rfl
  have c1 := h3.cell 1 (.int .i64 ((a : Int) + 1)) rfl
  have hsub : (a : Int) + 1 - 1 = (a : Int) := by omega
  replace h1 := Lib.hid h1
  replace h2 := Lib.hid h2
  replace h3 := Lib.hid h3
  refine GW.known _ rfl (fun hd' hf => ?_) ?_
  · go_wp2
    exact ⟨rfl, rfl, Below.refl _ _⟩
  simp only [Act.put, List.setIfInBounds_toArray, List.set_cons_succ, List.set_cons_zero]
  refine GW.known _ rfl (fun hd' hf => ?_) ?_
  · go_wp2
    exact ⟨rfl, rfl, Below.refl _ _⟩
  simp only [Act.put, List.setIfInBounds_toArray, List.set_cons_succ, List.set_cons_zero]
  refine GW.known _ rfl (fun hd' hf => ?_) ?_
  · go_wp2
    exact ⟨rfl, rfl, Below.refl _ _⟩
  simp only [Act.put, List.setIfInBounds_toArray, List.set_cons_succ, List.set_cons_zero]
  refine GW.known _ rfl (fun hd' hf => ?_) ?_
  · go_wp2
    exact ⟨rfl, rfl, Below.refl _ _⟩
  simp only [Act.put, List.setIfInBounds_toArray, List.set_cons_succ, List.set_cons_zero]
  refine GW.known _ rfl (fun hd' hf => ?_) ?_
  · go_wp2
    exact ⟨rfl, rfl, Below.refl _ _⟩
  simp only [Act.put, List.setIfInBounds_toArray, List.set_cons_succ, List.set_cons_zero]
  refine GW.known _ rfl (fun hd' hf => ?_) ?_
  · go_wp2
    exact ⟨rfl, rfl, Below.refl _ _⟩
  simp only [Act.put, List.setIfInBounds_toArray, List.set_cons_succ, List.set_cons_zero]
  refine GW.known _ rfl (fun hd' hf => ?_) ?_
  · go_wp2
    exact ⟨rfl, rfl, Below.refl _ _⟩
  simp only [Act.put, List.setIfInBounds_toArray, List.set_cons_succ, List.set_cons_zero]
  refine GW.known _ rfl (fun hd' hf => ?_) ?_
  · go_wp2
    exact ⟨rfl, rfl, Below.refl _ _⟩
  simp only [Act.put, List.setIfInBounds_toArray, List.set_cons_succ, List.set_cons_zero]
  refine GW.known _ rfl (fun hd' hf => ?_) ?_
  · go_wp2
    exact ⟨rfl, rfl, Below.refl _ _⟩
  simp only [Act.put, List.setIfInBounds_toArray, List.set_cons_succ, List.set_cons_zero]
  refine GW.known _ rfl (fun hd' hf => ?_) ?_
  · go_wp2
    exact ⟨rfl, rfl, Below.refl _ _⟩
  simp only [Act.put, List.setIfInBounds_toArray, List.set_cons_succ, List.set_cons_zero]
  refine GW.known _ rfl (fun hd' hf => ?_) ?_
  · go_wp2
    exact ⟨rfl, rfl, Below.refl _ _⟩
  simp only [Act.put, List.setIfInBounds_toArray, List.set_cons_succ, List.set_cons_zero]
  refine GW.known _ rfl (fun hd' hf => ?_) ?_
  · go_wp2
    exact ⟨rfl, rfl, Below.refl _ _⟩
  simp only [Act.put, List.setIfInBounds_toArray, List.set_cons_succ, List.set_cons_zero]
  refine GW.known _ rfl (fun hd' hf => ?_) ?_
  · go_wp2
    exact ⟨rfl, rfl, Below.refl _ _⟩
  simp only [Act.put, List.setIfInBounds_toArray, List.set_cons_succ, List.set_cons_zero]
  refine GW.known _ rfl (fun hd' hf => ?_) ?_
  · go_wp2
    exact ⟨rfl, rfl, Below.refl _ _⟩
  simp only [Act.put, List.setIfInBounds_toArray, List.set_cons_succ, List.set_cons_zero]
  refine GW.known _ rfl (fun hd' hf => ?_) ?_
  · go_wp2_with fail
    refine (text_any ex y).mono ?_
    rintro e2 u ⟨rfl, hq⟩
    go_wp2
    exact ⟨rfl, rfl, hq⟩
  simp only [Act.put, List.setIfInBounds_toArray, List.set_cons_succ, List.set_cons_zero]
  refine GW.open rfl (fun hd' hf => ?_) ?_
  · have h2o := h2.out
    rw [hf, cellsIf_false] at h2o
    have f0 := h2o.frozen 0
    have f1 := h2o.frozen 1
    have f2 := h2o.frozen 2
    have x0 := h2o.cell 0 _ rfl
    have x1 := h2o.cell 1 _ rfl
    have x2 := h2o.cell 2 _ rfl
    replace h2o := Lib.hid h2o
    go_wp2
    exact ⟨rfl, grown_set (grown_set (grown_set h1.out (p := ⟨w.heap.size, 0, none⟩) (.inr (Nat.le_refl _)) (.bool false)) (p := ⟨w.heap.size, 1, none⟩) (.inr (Nat.le_refl _)) (.string ex)) (p := ⟨w.heap.size, 2, none⟩) (.inr (Nat.le_refl _)) (.slice none 0 0), ((h2o.out.set 0 (.bool false)).set 1 (.string ex)).set 2 (.slice none 0 0), ((h3.out.other (p := ⟨w.heap.size, 0, none⟩) (by simp; omega) _).other (p := ⟨w.heap.size, 1, none⟩) (by simp; omega) _).other (p := ⟨w.heap.size, 2, none⟩) (by simp; omega) _⟩
  simp only [Act.put, List.setIfInBounds_toArray, List.set_cons_succ, List.set_cons_zero]
  refine GW.known _ rfl (fun hd' hf => ?_) ?_
  · go_wp2
    exact ⟨rfl, rfl, Below.refl _ _⟩
  simp only [Act.put, List.setIfInBounds_toArray, List.set_cons_succ, List.set_cons_zero]
  refine GW.nil (fun hall => ?_)
  have h2o := h2.out
  rw [hall 15 (by decide), cellsIf_true] at h2o
  have z0 := h2o.cell 0 _ rfl
  have z1 := h2o.cell 1 _ rfl
  have z2 := h2o.cell 2 _ rfl
  have hE := Lib.hid (hfin.out y h3.out h1.out)
  clear c0 c1 h2o hall Dn hsl
  go_wp2_with fail
  exact bodyPost_ret (v := .tuple #[.agg #[.bool false, .string ex, .slice none 0 0], .nilIface]) (by simp [results, Tryz.results76, go_sem, z0, z1, z2]) rfl hE.out

set_option maxRecDepth 100000 in
set_option maxHeartbeats 4000000 in
theorem text_head (s : ByteArray) (a m e c R : Nat) (w : World) (hR : Has w R 100 (rdC s a m)) (hs : s.size ≤ 1099511627776) (he : e ≤ s.size) (ha : a < e) (hc : 128 ≤ c) (hc2 : c < 192) (hbc : byteAt s.data.toList a = c) :
    Calls Tryz.prog 76 #[.pointer (some ⟨R, 0, none⟩), .int .i64 (c : Int), .int .i64 (e : Int)] w (ItP s R w (rdText s.data.toList e a m)) := by
  have hmx : Tryz.prog.follows .mixedOrders = true := by kernel_rfl
  have haI0 : (0 : Int) ≤ (a : Int) := by omega
  have haI1 : (a : Int) ≤ 1099511627776 := by omega
  have hcI : ¬ (c : Int) < 128 := by omega
  have hcI2 : (c : Int) < 192 := by omega
  have LS := Has.new w 29 #[.bool false, .string ⟨#[]⟩, .slice none 0 0]
  have LR := hR.alloc (.cells #[.bool false, .string ⟨#[]⟩, .slice none 0 0] 29)
  have Q := (Below.refl w.heap.size w).alloc (Nat.le_refl _) (.cells #[.bool false, .string ⟨#[]⟩, .slice none 0 0] 29)
  have hRlt := hR.lt
  obtain ⟨W1, hW1⟩ : ∃ W1, w.alloc (.cells #[.bool false, .string ⟨#[]⟩, .slice none 0 0] 29) = W1 := ⟨_, rfl⟩
  rw [hW1] at LS LR Q
  have HI := inside_any s a m e (c - 128) R W1 LR hs he ha (by omega)
  rw [show ((c - 128 : Nat) : Int) = (c : Int) - 128 by omega] at HI
  have hT : rdText s.data.toList e a m = (match rdHead s.data.toList (c - 128) e a with
    | .no x p => .no x p
    | .ok n fr _ => if bareB ((s.data.toList.drop fr).take n) then .no 11 a else .ok (.mk false ⟨((s.data.toList.drop fr).take n).toArray⟩ []) (fr + n) m) := by
    unfold rdText
    rw [if_neg (by omega), hbc]
  rw [hT]
  clear hT
  rcases hh : rdHead s.data.toList (c - 128) e a with ⟨n, fr, x⟩ | ⟨x, p⟩
  · rw [hh] at HI
    obtain ⟨g1, g2, g3⟩ := rdHead_ok 128 (by omega) (by omega) ha (by rw [← size_list]; exact he) hh
    have hex := extract_mk' s fr (fr + n)
    rw [show fr + n - fr = n by omega] at hex
    have hexL : (s.data.toList.drop fr).take n = (s.extract fr (fr + n)).data.toList := by rw [hex]
    have HBA := bare_any (s.extract fr (fr + n)).data.toList (by rw [← size_list, ByteArray.size_extract]; omega)
    simp only [hexL]
    rw [show ((⟨(s.extract fr (fr + n)).data.toList.toArray⟩ : ByteArray)) = s.extract fr (fr + n) from rfl]
    rw [show strV (s.extract fr (fr + n)).data.toList = .string (s.extract fr (fr + n)) from rfl] at HBA
    have hexs : (s.extract fr (fr + n)).size ≤ 140737488355328 := by rw [ByteArray.size_extract]; omega
    have hIV : insV (.ok n fr x) = .tuple #[.agg #[.int .i64 (fr : Int), .int .i64 ((fr : Int) + (n : Int))], .nilIface] := by
      show Value.tuple #[.agg #[.int .i64 (fr : Int), .int .i64 ((fr + n : Nat) : Int)], .nilIface] = _
      rw [Int.natCast_add]
    rw [hIV] at HI
    have t1 : ((fr : Int) + (n : Int)).toNat = fr + n := by omega
    have t2 : ((fr : Int)).toNat = fr := by omega
    have hfI0 : (0 : Int) ≤ (fr : Int) := by omega
    have hnI0 : (0 : Int) ≤ (n : Int) := by omega
    have hfnI : (fr : Int) + (n : Int) ≤ 1099511627776 := by omega
    have hsl : ∀ W : World, (Instr.slice 9 (.string s) (some (.int .i64 (fr : Int))) (some (.int .i64 ((fr : Int) + (n : Int)))) none).run Tryz.prog W = .ok (.string (s.extract fr (fr + n))) W := fun W => by
      rw [run_slice_string_if W _ _ _ _ _ _ Tryz.underlying9, if_pos (by omega), if_pos (by omega), t1, t2]
    clear hex hexL
    generalize s.extract fr (fr + n) = ex at *
    have HX := Lib.hid (text_any ex)
    have hyes := Lib.hid (show ∀ y, Has y R 100 #[.string s, .int .i64 ((fr : Int) + (n : Int)), .int .i64 (m : Int)] → w.grownBy y (some R) → ItP s R w (.ok (.mk false ex []) (fr + n) m) (.returned (.tuple #[.agg #[.bool false, .string ex, .slice none 0 0], .nilIface])) y from fun y h1 h2 =>
      ⟨_, rfl, txtS ex hexs y _, by show Has y R _ #[.string s, .int .i64 ((fr + n : Nat) : Int), .int .i64 (m : Int)]; rw [Int.natCast_add]; exact h1, h2⟩)
    have hno := Lib.hid (show ∀ y, Has y R 100 (rdC s a m) → Below w.heap.size w y → ItP s R w (.no 11 a) (.returned (.tuple #[.agg #[.bool false, .string ⟨#[]⟩, .slice none 0 0], fltV 11 a])) y from fun y h1 h2 => ⟨rfl, grown_of_below h2 _⟩)
    have c1 := LR.cell 1 (.int .i64 (a : Int)) rfl
    replace LS := Lib.hid LS
    replace LR := Lib.hid LR
    replace Q := Lib.hid Q
    replace HI := Lib.hid HI
    replace HBA := Lib.hid HBA
    clear hR hs he ha hc hc2 hbc hh g1 g2 g3 t1 t2 hexs hIV
    obtain ⟨bb, hbb⟩ : ∃ bb, bareB ex.data.toList = bb := ⟨_, rfl⟩
    rw [hbb] at HBA ⊢
    clear hbb
    obtain ⟨r, hr⟩ : ∃ r, (if bb = true then Rd.no 11 a else Rd.ok (It.mk false ex []) (fr + n) m) = r := ⟨_, rfl⟩
    rw [hr]
    replace hr := Lib.hid hr
    go_enter Tryz.func76, Tryz.ntmps76
    go_wp2_with fail
    refine HI.out.mono ?_
    rintro _ W2 ⟨rfl, q⟩
    have NX := Has.new W2 154 #[.int .i64 0, .int .i64 0]
    have x0 := NX.cell 0 _ rfl
    have x1 := NX.cell 1 _ rfl
    have f0 := NX.frozen 0
    have f1 := NX.frozen 1
    replace NX := Lib.hid NX
    obtain ⟨W3, hW3⟩ : ∃ W3, W2.alloc (.cells #[.int .i64 (fr : Int), .int .i64 ((fr : Int) + (n : Int))] 154) = W3 := ⟨_, rfl⟩
    have q3 : Below W2.heap.size W2 W3 := by rw [← hW3]; exact (Below.refl _ _).alloc (Nat.le_refl _) _
    have L8 : Has W3 W2.heap.size 154 #[.int .i64 (fr : Int), .int .i64 ((fr : Int) + (n : Int))] := by rw [← hW3]; exact Has.new _ _ _
    replace LS := Lib.hid ((LS.out.later q).later q3)
    replace LR := Lib.hid ((LR.out.later q).later q3)
    have Q2 := Q.out.trans (q.mono Q.out.size)
    have hne8 := Lib.hid (show R < W2.heap.size ∧ w.heap.size < W2.heap.size by
      have := q.size
      have h1 : W1.heap.size = w.heap.size + 1 := by rw [← hW1]; simp
      omega)
    replace Q := Lib.hid (Q2.trans (q3.mono Q2.size))
    clear q q3 Q2 c1 HI hW1
    have d0 : ∀ X : Ext W3, X.w.cell? ⟨R, 0, none⟩ = some (.string s) := fun X => LR.out.ext X 0 _ rfl
    have d1 : ∀ X : Ext W3, X.w.cell? ⟨R, 1, none⟩ = some (.int .i64 (a : Int)) := fun X => LR.out.ext X 1 _ rfl
    have d3 : ∀ X : Ext W3, X.w.cell? ⟨W2.heap.size, 0, none⟩ = some (.int .i64 (fr : Int)) := fun X => L8.ext X 0 _ rfl
    have d4 : ∀ X : Ext W3, X.w.cell? ⟨W2.heap.size, 1, none⟩ = some (.int .i64 ((fr : Int) + (n : Int))) := fun X => L8.ext X 1 _ rfl
    replace L8 := Lib.hid L8
    go_wp2_with fail
    clear hW3 x0 x1 f0 f1 NX
    refine wp_region_quietL (C := Grows W3) hmx (by kernel_rfl) (grows_refl W3) ?_
    repeat (go_big_quiet_step (fail))
    refine wpQuiet_nil ?_
    rintro _ ⟨X, rfl⟩
    replace LS := Lib.hid (LS.out.later X.below)
    replace LR := Lib.hid (LR.out.later X.below)
    replace L8 := Lib.hid (L8.out.later X.below)
    replace Q := Lib.hid (Q.out.trans (X.below.mono Q.out.size))
    clear d0 d1 d3 d4 hsl
    go_wp2_with fail
    refine (HBA.out _).mono ?_
    rintro _ W4 ⟨rfl, rfl⟩
    cases bb with
    | true =>
      have hno2 : ∀ y, Has y R 100 (rdC s a m) → Below w.heap.size w y → ItP s R w r (.returned (.tuple #[.agg #[.bool false, .string ⟨#[]⟩, .slice none 0 0], fltV 11 a])) y := by
        rw [show r = Rd.no 11 a from hr.out.symm]; exact hno.out
      replace hno := Lib.hid hno2
      clear hno2
      go_wp2_with fail
      refine wp_region_ghost [some (.agg #[.bool false, .string ⟨#[]⟩, .slice none 0 0]), some (.pointer (some ⟨R, 0, none⟩)), some (.pointer (some ⟨R, 0, none⟩)), some (.pointer (some ⟨R, 1, none⟩)), some (.int .i64 (a : Int)), some (.agg #[.int .i64 11, .int .i64 (a : Int)]), some (fltV 11 a), none, some (fltV 11 a)] [[], [], [1], [1, 2], [1, 2, 3], [1, 2, 3, 4], [1, 2, 3, 4, 5], [0], [1, 2, 3, 4, 5, 6]]
        (fun _ _ y => Below w.heap.size w y ∧ Has y w.heap.size 29 #[.bool false, .string ⟨#[]⟩, .slice none 0 0] ∧ Has y R 100 (rdC s a m))
        (by kernel_rfl) (by kernel_rfl) (by kernel_rfl) ?_ ?_ ?_ ?_
      · rintro f g' wa wb ⟨h1, h2, h3⟩ hb
        exact ⟨h1.trans (hb.mono h1.size), h2.later hb, h3.later hb⟩
      · intro f f' g1 g1' wa h
        exact id
      · exact ⟨Q.out.drew, LS.out, LR.out⟩
      rintro f g' y ⟨h1, h2, h3⟩ Dn
      have c0 := h3.cell 1 (.int .i64 (a : Int)) rfl
      have f0 := h2.frozen 0
      have x0 := h2.cell 0 _ rfl
      have f1 := h2.frozen 1
      have x1 := h2.cell 1 _ rfl
      have f2 := h2.frozen 2
      have x2 := h2.cell 2 _ rfl
      replace h1 := Lib.hid h1
      replace h2 := Lib.hid h2
      replace h3 := Lib.hid h3
      refine GW.known _ rfl (fun hd' hf => ?_) ?_
      · go_wp2
        exact ⟨rfl, rfl, Below.refl _ _⟩
      simp only [Act.put, List.setIfInBounds_toArray, List.set_cons_succ, List.set_cons_zero]
      refine GW.known _ rfl (fun hd' hf => ?_) ?_
      · go_wp2
        exact ⟨rfl, rfl, Below.refl _ _⟩
      simp only [Act.put, List.setIfInBounds_toArray, List.set_cons_succ, List.set_cons_zero]
      refine GW.known _ rfl (fun hd' hf => ?_) ?_
      · go_wp2
        exact ⟨rfl, rfl, Below.refl _ _⟩
      simp only [Act.put, List.setIfInBounds_toArray, List.set_cons_succ, List.set_cons_zero]
      refine GW.known _ rfl (fun hd' hf => ?_) ?_
      · go_wp2
        exact ⟨rfl, rfl, Below.refl _ _⟩
      simp only [Act.put, List.setIfInBounds_toArray, List.set_cons_succ, List.set_cons_zero]
      refine GW.known _ rfl (fun hd' hf => ?_) ?_
      · go_wp2
        exact ⟨rfl, rfl, Below.refl _ _⟩
      simp only [Act.put, List.setIfInBounds_toArray, List.set_cons_succ, List.set_cons_zero]
      refine GW.known _ rfl (fun hd' hf => ?_) ?_
      · go_wp2
        exact ⟨rfl, rfl, Below.refl _ _⟩
      simp only [Act.put, List.setIfInBounds_toArray, List.set_cons_succ, List.set_cons_zero]
      refine GW.known _ rfl (fun hd' hf => ?_) ?_
      · go_wp2
        exact ⟨rfl, rfl, Below.refl _ _⟩
      simp only [Act.put, List.setIfInBounds_toArray, List.set_cons_succ, List.set_cons_zero]
      refine GW.open rfl (fun hd' hf => ?_) ?_
      · go_wp2
        exact ⟨rfl, (((h1.out.setCell (p := ⟨w.heap.size, 0, none⟩) (by simp) (.bool false)).setCell (p := ⟨w.heap.size, 1, none⟩) (by simp) (.string ⟨#[]⟩)).setCell (p := ⟨w.heap.size, 2, none⟩) (by simp) (.slice none 0 0)), (((h2.out.set 0 (.bool false)).set 1 (.string ⟨#[]⟩)).set 2 (.slice none 0 0)), (((h3.out.other (p := ⟨w.heap.size, 0, none⟩) (by simp; omega) (.bool false)).other (p := ⟨w.heap.size, 1, none⟩) (by simp; omega) (.string ⟨#[]⟩)).other (p := ⟨w.heap.size, 2, none⟩) (by simp; omega) (.slice none 0 0))⟩
      simp only [Act.put, List.setIfInBounds_toArray, List.set_cons_succ, List.set_cons_zero]
      refine GW.known _ rfl (fun hd' hf => ?_) ?_
      · go_wp2
        exact ⟨rfl, rfl, Below.refl _ _⟩
      simp only [Act.put, List.setIfInBounds_toArray, List.set_cons_succ, List.set_cons_zero]
      refine GW.nil (fun _ => ?_)
      have z0 := h2.out.cell 0 _ rfl
      have z1 := h2.out.cell 1 _ rfl
      have z2 := h2.out.cell 2 _ rfl
      have hE := Lib.hid (hno.out y h3.out h1.out)
      go_wp2_with fail
      exact bodyPost_ret (v := .tuple #[.agg #[.bool false, .string ⟨#[]⟩, .slice none 0 0], fltV 11 a]) (by simp [results, Tryz.results76, go_sem, z0, z1, z2]) rfl hE.out

    | false =>
      have hyes2 : ∀ y, Has y R 100 #[.string s, .int .i64 ((fr : Int) + (n : Int)), .int .i64 (m : Int)] → w.grownBy y (some R) → ItP s R w r (.returned (.tuple #[.agg #[.bool false, .string ex, .slice none 0 0], .nilIface])) y := by
        rw [show r = Rd.ok (It.mk false ex []) (fr + n) m from hr.out.symm]; exact hyes.out
      replace hyes := Lib.hid hyes2
      clear hyes2
      have c1 := LR.out.cell 1 (.int .i64 (a : Int)) rfl
      have f1 := LR.out.frozen 1
      have e0 := L8.out.cell 0 (.int .i64 (fr : Int)) rfl
      have e1 := L8.out.cell 1 (.int .i64 ((fr : Int) + (n : Int))) rfl
      have G2 := grown_set' (grown_of_below Q.out (some R)) 1 (.int .i64 ((fr : Int) + (n : Int)))
      have LR2 := LR.out.set 1 (.int .i64 ((fr : Int) + (n : Int)))
      have LS2 := LS.out.other (p := ⟨R, 1, none⟩) (by simp; omega) (.int .i64 ((fr : Int) + (n : Int)))
      replace G2 := Lib.hid G2
      replace LR2 := Lib.hid LR2
      replace LS2 := Lib.hid LS2
      go_wp2_with fail
      refine (HX.out _).mono ?_
      rintro _ W5 ⟨rfl, q⟩
      have LR5 := LR2.out.later q
      have LS5 := LS2.out.later q
      have G5 := grown_then_below G2.out q
      clear q c1 f1 e0 e1
      have f0 := LS5.frozen 0
      have f1 := LS5.frozen 1
      have f2 := LS5.frozen 2
      have x0 := LS5.cell 0 _ rfl
      have x1 := LS5.cell 1 _ rfl
      have x2 := LS5.cell 2 _ rfl
      have S := ((LS5.set 0 (.bool false)).set 1 (.string ex)).set 2 (.slice none 0 0)
      have z0 := S.cell 0 _ rfl
      have z1 := S.cell 1 _ rfl
      have z2 := S.cell 2 _ rfl
      have hE := Lib.hid (hyes.out _ (((LR5.other (p := ⟨w.heap.size, 0, none⟩) (by simp; omega) (.bool false)).other (p := ⟨w.heap.size, 1, none⟩) (by simp; omega) (.string ex)).other (p := ⟨w.heap.size, 2, none⟩) (by simp; omega) (.slice none 0 0)) (grown_set (grown_set (grown_set G5 (p := ⟨w.heap.size, 0, none⟩) (.inr (Nat.le_refl _)) (.bool false)) (p := ⟨w.heap.size, 1, none⟩) (.inr (Nat.le_refl _)) (.string ex)) (p := ⟨w.heap.size, 2, none⟩) (.inr (Nat.le_refl _)) (.slice none 0 0)))
      replace LR5 := Lib.hid LR5
      replace LS5 := Lib.hid LS5
      replace G5 := Lib.hid G5
      replace S := Lib.hid S
      replace z0 := Lib.hid z0
      replace z1 := Lib.hid z1
      replace z2 := Lib.hid z2
      go_wp2_with fail
      replace z0 := z0.out
      replace z1 := z1.out
      replace z2 := z2.out
      exact bodyPost_ret (v := .tuple #[.agg #[.bool false, .string ex, .slice none 0 0], .nilIface]) (by simp [results, Tryz.results76, go_sem, z0, z1, z2]) rfl hE.out
  · rw [hh] at HI
    have hno := Lib.hid (show ∀ y, Has y R 100 (rdC s a m) → Below w.heap.size w y → ItP s R w (.no x p) (.returned (.tuple #[.agg #[.bool false, .string ⟨#[]⟩, .slice none 0 0], fltV x p])) y from fun y h1 h2 => ⟨rfl, grown_of_below h2 _⟩)
    rw [insV_no] at HI
    have c1 := LR.cell 1 (.int .i64 (a : Int)) rfl
    replace LS := Lib.hid LS
    replace LR := Lib.hid LR
    replace Q := Lib.hid Q
    replace HI := Lib.hid HI
    clear hR hs he ha hc hc2 hbc hh
    go_enter Tryz.func76, Tryz.ntmps76
    go_wp2_with fail
    refine HI.out.mono ?_
    rintro _ W2 ⟨rfl, q⟩
    have q2 := Q.out.trans (q.mono Q.out.size)
    have LS2 := (LS.out.later q).alloc (.cells #[.int .i64 0, .int .i64 0] 154)
    have LR2 := (LR.out.later q).alloc (.cells #[.int .i64 0, .int .i64 0] 154)
    have Q2 := q2.alloc q2.size (.cells #[.int .i64 0, .int .i64 0] 154)
    have NX := Has.new W2 154 #[.int .i64 0, .int .i64 0]
    have y0 := NX.cell 0 _ rfl
    have y1 := NX.cell 1 _ rfl
    have g0 := NX.frozen 0
    have g1 := NX.frozen 1
    have f0 := LS2.frozen 0
    have f1 := LS2.frozen 1
    have f2 := LS2.frozen 2
    have x0 := LS2.cell 0 _ rfl
    have x1 := LS2.cell 1 _ rfl
    have x2 := LS2.cell 2 _ rfl
    have S := ((LS2.set 0 (.bool false)).set 1 (.string ⟨#[]⟩)).set 2 (.slice none 0 0)
    have z0 := Lib.hid (S.cell 0 _ rfl)
    have z1 := Lib.hid (S.cell 1 _ rfl)
    have z2 := Lib.hid (S.cell 2 _ rfl)
    have hE := Lib.hid (hno.out _ (((LR2.other (p := ⟨w.heap.size, 0, none⟩) (by simp; omega) (.bool false)).other (p := ⟨w.heap.size, 1, none⟩) (by simp; omega) (.string ⟨#[]⟩)).other (p := ⟨w.heap.size, 2, none⟩) (by simp; omega) (.slice none 0 0)) (((Q2.setCell (p := ⟨w.heap.size, 0, none⟩) (by simp) (.bool false)).setCell (p := ⟨w.heap.size, 1, none⟩) (by simp) (.string ⟨#[]⟩)).setCell (p := ⟨w.heap.size, 2, none⟩) (by simp) (.slice none 0 0)))
    replace NX := Lib.hid NX
    replace LS2 := Lib.hid LS2
    replace LR2 := Lib.hid LR2
    replace Q2 := Lib.hid Q2
    replace S := Lib.hid S
    clear q q2 c1 hW1 HI
    go_wp2_with fail
    replace z0 := z0.out
    replace z1 := z1.out
    replace z2 := z2.out
    exact bodyPost_ret (v := .tuple #[.agg #[.bool false, .string ⟨#[]⟩, .slice none 0 0], fltV x p]) (by simp [results, Tryz.results76, go_sem, z0, z1, z2]) rfl hE.out
end Go.Proofs.YtbbpmcebakckaaaGreatDoor

/- A range over a function, told by how many rounds are over, whatever each round is handed: E says what it may be, by the world when the round before was over and by its own; Kp what the loop's body leaves as it was, Sj what the iterator does meanwhile, Fin what it leaves. Condition: the iterator's contract. -/
namespace Go.Proofs.YtbbpmcebakckaaaGreatDoor
open Go Go.RowKit

/-- The iterator's contract: round k is handed what E allows; when all N are over, or one has said that there shall be no more, it returns. -/
def SeqD (F : Fence) (n : Nat) (P : Program) (g : Nat) (lb : Array Value) (E : Nat → Array Value → World → World → Prop) (Kp Sj : World → World → Prop) (Fin : World → Prop) (N : Nat) (w : World) : Prop :=
  ∀ (l : Nat) (J Jx : Nat → World → Prop) (W : World), Below w.heap.size w W → (∀ s A X, J s A → Sj A X → J s X) → (∀ s A X, Jx s A → Sj A X → Jx s X) →
    (∀ k args A W1, k < N → J k A → Sj A W1 → E k args A W1 → YieldAt F (n - 1) P l args W1 fun e W' =>
      (e = .returned (.bool true) ∧ J (k + 1) W' ∧ Kp W1 W') ∨ (e = .returned (.bool false) ∧ Jx k W')) →
    J 0 W →
    CallsIn F n P g (#[.func (.yield l) #[] #[]] ++ lb) W fun e W' => (∃ v, e = .returned v) ∧ ((J N W' ∧ Fin W') ∨ ∃ k, k < N ∧ Jx k W')

variable {F : Fence} {n : Nat} {P : Program}

theorem wpIn_rangeFunc_D {g : Operand} {ps : Array Tmp} {assign body : Code} {Q : Exit → Act → World → Prop} {a : Act} {w : World}
    (hro : F.round = none) (h1 : 1 ≤ n) {gf : Nat} {lb : Array Value} (hg : a.eval g = .func (.func gf) #[] lb) (hFg : F.fn gf) (eg : ∀ args w, (callFunc gf args).run P w = .ok (.enter gf args) w)
    {E : Nat → Array Value → World → World → Prop} {Kp Sj : World → World → Prop} {Fin : World → Prop} {N : Nat} (hseq : SeqD F (n - 1) P gf lb E Kp Sj Fin N w) (hFin : OwnFrom w.heap.size (fun (_ : Unit) W => Fin W)) (hSj : ∀ A X, Sj A X → ∀ (b : Nat) (o : Obj), A.heap[b]? = some o → o.isCells = false → X.heap[b]? = some o)
    (hKt : ∀ {A B C : World}, Kp A B → Kp B C → Kp A C) (hKb : ∀ (W : World) (l : Nat) (o o' : Obj), w.heap.size ≤ l → W.heap[l]? = some o → o.isCells = false → o.isWalk = false → Kp W (W.putObj l o')) (hps : ∀ k args A W, k < N → E k args A W → args.size = ps.size)
    (I : Nat → World → Prop) (Ix : Code → Nat → World → Prop) (hI : OwnFrom w.heap.size I) (hIx : ∀ c, OwnFrom w.heap.size (Ix c)) (hIb : ∀ s A X, I s A → Sj A X → I s X) (hIxb : ∀ c s A X, Ix c s A → Sj A X → Ix c s X) (h0 : I 0 w) (Ax : Nat → Act → World → Prop) (hAx : ∀ k a', OwnFrom w.heap.size (fun (_ : Unit) W => Ax k a' W))
    (hassign : ∀ (l k : Nat) (args : Array Value) (A W : World) (K : Act → World → Prop), w.heap.size ≤ l → k < N → I k A → Sj A W → I k W → E k args A W → (∀ a' W', KeepsFrom w.heap.size W W' → Kp W W' → I k W' → Ax k a' W' → K a' W') →
      assign.wpIn (F.inRound l) (n - 1 - 1) P (Exit.then K (fun _ _ _ => False)) { tmps := (ps.zip args).foldl (fun t (p, v) => t.setIfInBounds p v) a.tmps, defers := [] } W)
    (hbody : ∀ (l k : Nat) (a' : Act) (W : World), w.heap.size ≤ l → (∃ r, W.heap[l]? = some (.loop r)) → k < N → I k W → Ax k a' W → body.wpIn (F.inRound l) (n - 1 - 1) P (roundN w.heap.size Kp I Ix k W) a' W)
    (hdone : ∀ (D : Nat) (W : World), w.heap.size ≤ D → I N W → Fin W → W.heap[D]? = some (.deferred (some [])) → Q .normal { a with defers := { target := .collected D, args := #[] } :: a.defers } W)
    (hstop : ∀ (D : Nat) (c : Code) (k : Nat) (W : World), w.heap.size ≤ D → k < N → Ix c k W → W.heap[D]? = some (.deferred (some [])) → c.wpIn F n P Q { a with defers := { target := .collected D, args := #[] } :: a.defers } W) :
    (Code.rangeFunc g ps assign body).wpIn F n P Q a w := by
  refine wpIn_rangeFunc ?_
  intro fn hfn
  rw [hro]
  obtain ⟨rec, hrec⟩ : ∃ rec : LoopState → Option Code → Loop, rec = fun st pe => { state := st, pending := pe, fn, tmps := a.tmps, params := ps, assign, body, defers := w.heap.size } := ⟨_, rfl⟩
  obtain ⟨W1, hW1⟩ : ∃ W1, (w.alloc (.deferred (some []))).alloc (.loop (rec .ready none)) = W1 := ⟨_, rfl⟩
  have hL1 : W1.heap[w.heap.size + 1]? = some (.loop (rec .ready none)) := by
    rw [← hW1]; have := World.alloc_heap_new (w.alloc (.deferred (some []))) (.loop (rec .ready none)); rwa [World.size_alloc] at this
  have hK1 : W1.heap[w.heap.size]? = some (.deferred (some [])) := by
    rw [← hW1]; exact (Below.heap_alloc _ _ _ (by simp)).trans (World.alloc_heap_new w _)
  have hI1 : I 0 W1 := by rw [← hW1]; exact hI.alloc _ (hI.alloc _ h0)
  have hb1 : Below w.heap.size w W1 := by
    rw [← hW1]; exact ((Below.refl _ w).alloc (Nat.le_refl _) _).alloc (by simp) _
  refine ⟨w.heap.size + 1, [{ target := .collected w.heap.size, args := #[] }], W1, { target := .fn (.func gf) lb, args := #[.func (.yield (w.heap.size + 1)) #[] #[]] }, W1, gf,
    #[.func (.yield (w.heap.size + 1)) #[] #[]] ++ lb, W1, ?_, ?_, ?_, ?_, fun _ => h1, ?_⟩
  · rw [← hW1, hrec]; exact run_enterLoop_outer _ _ _ _ _
  · simp only [resolve, hg]
    simp [go_sem]
  · intro f' hf'; simp [Target.leads] at hf'; subst hf'; exact hFg
  · simp [invoke, go_sem, eg]
  · skip
    refine (hseq (w.heap.size + 1)
      (fun k W => I k W ∧ W.heap[w.heap.size + 1]? = some (.loop (rec .ready none)) ∧ W.heap[w.heap.size]? = some (.deferred (some [])))
      (fun k W => ∃ c, Ix c k W ∧ W.heap[w.heap.size + 1]? = some (.loop (rec .done (some c))) ∧ W.heap[w.heap.size]? = some (.deferred (some [])))
      W1 hb1
      (fun s A X hs hb => ⟨hIb s A X hs.1 hb, hSj A X hb _ _ hs.2.1 rfl, hSj A X hb _ _ hs.2.2 rfl⟩)
      (fun s A X hs hb => by
        obtain ⟨c, hc, hl, hk⟩ := hs
        exact ⟨c, hIxb c s A X hc hb, hSj A X hb _ _ hl rfl, hSj A X hb _ _ hk rfl⟩)
      ?_ ⟨hI1, hL1, hK1⟩).mono ?_
    · rintro k args A W hkN ⟨hi0, hl0, hk0⟩ hsj hE
      have hi := hIb _ _ _ hi0 hsj
      have hl := hSj A W hsj _ _ hl0 rfl
      have hk := hSj A W hsj _ _ hk0 rfl
      have hlt : w.heap.size + 1 < W.heap.size := (Array.getElem?_eq_some_iff.1 hl).1
      have hy := run_yield (P := P) (args := args) hl (by rw [hrec]; exact hps k args A W hkN hE)
      rw [hrec] at hy
      refine ⟨fn, _, assign, body, hy, roundIn_of_wpIn hfn (hassign _ k args A W _ (by omega) hkN hi0 hsj hi hE ?_)⟩
      clear hy
      intro a' Wa hkfa hkpa hia hax
      replace hl := hkfa.same _ _ (by omega) hl rfl
      replace hk := hkfa.same _ _ (Nat.le_refl _) hk rfl
      replace hlt : w.heap.size + 1 < Wa.heap.size := (Array.getElem?_eq_some_iff.1 hl).1
      refine ⟨_, run_beginRound hl (by rw [hrec]), ?_⟩
      have hl2 : (Wa.putObj (w.heap.size + 1) (.loop { rec .ready none with state := .busy })).heap[w.heap.size + 1]? = some (.loop { rec .ready none with state := .busy }) := World.putObj_heap_same hlt
      have hk2 : (Wa.putObj (w.heap.size + 1) (.loop { rec .ready none with state := .busy })).heap[w.heap.size]? = some (.deferred (some [])) := (World.putObj_heap_other (by omega)).trans hk
      have hw2 : Kp Wa (Wa.putObj (w.heap.size + 1) (.loop { rec .ready none with state := .busy })) := hKb _ _ _ _ (by omega) hl rfl rfl
      refine wpIn_mono (hbody _ k a' _ (by omega) ⟨_, hl2⟩ hkN (hI.putObj _ hia (by omega) hl rfl) ((hAx k a').putObj (s := ()) _ hax (by omega) hl rfl)) ?_
      have fin : ∀ (jump : Option Code) (W3 : World), KeepsFrom w.heap.size (Wa.putObj (w.heap.size + 1) (.loop { rec .ready none with state := .busy })) W3 →
          (Instr.endRound (w.heap.size + 1) jump).run P W3 = .ok (.bool jump.isNone) (W3.putObj (w.heap.size + 1) (.loop (rec (if jump.isNone then .ready else .done) jump))) ∧
          W3.heap[w.heap.size + 1]? = some (.loop { rec .ready none with state := .busy }) ∧
          (W3.putObj (w.heap.size + 1) (.loop (rec (if jump.isNone then .ready else .done) jump))).heap[w.heap.size + 1]? = some (.loop (rec (if jump.isNone then .ready else .done) jump)) ∧
          (W3.putObj (w.heap.size + 1) (.loop (rec (if jump.isNone then .ready else .done) jump))).heap[w.heap.size]? = some (.deferred (some [])) := fun jump W3 hk3 => by
        have hl3 := hk3.same _ _ (by omega) hl2 rfl
        have := run_endRound (P := P) jump hl3
        rw [hrec] at this ⊢
        exact ⟨this, by rw [hrec] at hl3; exact hl3, World.putObj_heap_same (Array.getElem?_eq_some_iff.1 hl3).1, (World.putObj_heap_other (by omega)).trans (hk3.same _ _ (Nat.le_refl _) hk2 rfl)⟩
      rintro e a3 W3 hp
      cases e with
      | normal =>
        obtain ⟨hk3, hkp3, hi3⟩ := hp
        obtain ⟨hr, hl3, hl4, hk4⟩ := fin none W3 hk3
        exact ⟨_, _, hr, .inl ⟨rfl, ⟨hI.putObj _ hi3 (by omega) hl3 rfl, hl4, hk4⟩, hKt hkpa (hKt (hKt hw2 hkp3) (hKb _ _ _ _ (by omega) hl3 rfl rfl))⟩⟩
      | ret =>
        obtain ⟨hk3, hi3⟩ := hp
        obtain ⟨hr, hl3, hl4, hk4⟩ := fin (some .ret) W3 hk3
        exact ⟨_, _, hr, .inr ⟨rfl, .ret, (hIx _).putObj _ hi3 (by omega) hl3 rfl, hl4, hk4⟩⟩
      | exit id =>
        obtain ⟨hk3, hi3⟩ := hp
        obtain ⟨hr, hl3, hl4, hk4⟩ := fin (some (.exit id)) W3 hk3
        exact ⟨_, _, hr, .inr ⟨rfl, .exit id, (hIx _).putObj _ hi3 (by omega) hl3 rfl, hl4, hk4⟩⟩
      | goto t =>
        obtain ⟨hk3, hi3⟩ := hp
        obtain ⟨hr, hl3, hl4, hk4⟩ := fin (some (.goto t)) W3 hk3
        exact ⟨_, _, hr, .inr ⟨rfl, .goto t, (hIx _).putObj _ hi3 (by omega) hl3 rfl, hl4, hk4⟩⟩
      | panic ch => exact hp.elim
      | outgrown => exact hp.elim
    · rintro e W2 ⟨⟨v, rfl⟩, (⟨⟨hi, hl, hk⟩, hf⟩ | ⟨k, hkN, c, hi, hl, hk⟩)⟩
      · exact ⟨none, _, by have := run_endLoop (P := P) hl (by rw [hrec]; simp); rw [hrec] at this; exact this, hdone _ _ (Nat.le_refl _) (hI.putObj _ hi (by omega) hl rfl) (hFin.putObj (s := ()) _ hf (by omega) hl rfl) ((World.putObj_heap_other (by omega)).trans hk)⟩
      · exact ⟨some c, _, by have := run_endLoop (P := P) hl (by rw [hrec]; simp); rw [hrec] at this; exact this, hstop _ c k _ (Nat.le_refl _) hkN ((hIx c).putObj _ hi (by omega) hl rfl) ((World.putObj_heap_other (by omega)).trans hk)⟩

end Go.Proofs.YtbbpmcebakckaaaGreatDoor

/- The reference's Right. -/
namespace Go.Proofs.YtbbpmcebakckaaaGreatDoor
open Go Go.RowKit
attribute [local go_sem] Oper.semAt_some Grows wide_fn

/-- May an item be? -/
noncomputable def okI (t : It) : Bool := decide (countI t ≤ 5000) && rightB 16 t
theorem cutN_gt (a : Nat) : (cutN a 5001 ≤ 5000) ↔ a ≤ 5000 := by unfold cutN; split <;> omega

set_option maxRecDepth 100000 in
set_option maxHeartbeats 4000000 in
theorem refRight (t : It) (v : Value) (w : World) (ht : ItemAt w t v) :
    Calls Tryz.prog 15 #[v] w fun e W' => e = .returned (.bool (okI t)) ∧ Below w.heap.size w W' := by
  have HM := Lib.hid (refMany t 5001 (by omega) (by omega))
  have HR := Lib.hid (refRightAt 16 (by omega) t)
  have HT := Lib.hid ht
  obtain ⟨a, cap, rfl, hn, hs, hk⟩ := ht.open
  clear ht hs hk
  generalize t.list = l at *
  generalize t.bytes = b at *
  generalize t.kids.length = n at *
  have hmx : Tryz.prog.follows .mixedOrders = true := by kernel_rfl
  have LX := Has.new w 29 #[.bool l, .string b, .slice a n cap]
  have Q := (Below.refl w.heap.size w).alloc (Nat.le_refl _) (.cells #[.bool l, .string b, .slice a n cap] 29)
  go_enter Tryz.func15, Tryz.ntmps15
  obtain ⟨W1, hW1⟩ : ∃ W1, w.alloc (.cells #[.bool l, .string b, .slice a n cap] 29) = W1 := ⟨_, rfl⟩
  rw [hW1] at LX Q
  have k1 := LX.cell 0 _ rfl
  have k2 := LX.cell 1 _ rfl
  have k3 := LX.cell 2 _ rfl
  have HC := HM.out _ _ (HT.out.later Q)
  have hS : okI t = (decide (cutN (countI t) 5001 ≤ 5000) && rightB 16 t) := by
    unfold okI
    rw [decide_eq_decide.2 (cutN_gt (countI t))]
  replace hS := Lib.hid hS
  generalize cutN (countI t) 5001 = c at *
  replace HC := Lib.hid HC
  replace LX := Lib.hid LX
  replace Q := Lib.hid Q
  go_wp2_with fail
  refine HC.out.mono ?_
  rintro _ W2 ⟨rfl, q⟩
  replace LX := Lib.hid (LX.out.later q)
  replace Q := Lib.hid (Q.out.trans (q.mono Q.out.size))
  clear k1 k2 k3 HC q HM
  have k1 := LX.out.cell 0 _ rfl
  have k2 := LX.out.cell 1 _ rfl
  have k3 := LX.out.cell 2 _ rfl
  by_cases hc : c ≤ 5000
  · have hcI : (c : Int) ≤ 5000 := by omega
    have HC := Lib.hid (HR.out _ _ (HT.out.later Q.out))
    have hS2 : okI t = rightB 16 t := by rw [hS.out]; simp [hc]
    replace hS2 := Lib.hid hS2
    clear hS
    go_wp2_with fail
    refine HC.out.mono ?_
    rintro _ W3 ⟨rfl, q⟩
    replace Q := Lib.hid (Q.out.trans (q.mono Q.out.size))
    clear k1 k2 k3 HC q HR
    go_wp2_with fail
    go_ret
    exact ⟨by rw [hS2.out]; rfl, Q.out⟩
  · have hcI : ¬ (c : Int) ≤ 5000 := by omega
    have hS2 : okI t = false := by rw [hS.out]; simp [hc]
    replace hS2 := Lib.hid hS2
    clear hS
    go_wp2_with fail
    go_ret
    exact ⟨by rw [hS2.out]; rfl, Q.out⟩
end Go.Proofs.YtbbpmcebakckaaaGreatDoor

/- all, and Right. Conditions: the item lies in memory, and holds no more than 2^40 items. -/
namespace Go.Proofs.YtbbpmcebakckaaaGreatDoor
open Go Go.RowKit
attribute [local go_sem] Oper.semAt_some Grows wide_fn

/-- Nothing but growth. -/
def Gr (A X : World) : Prop := Below A.heap.size A X
theorem Gr.keeps (A X : World) (h : Gr A X) (b : Nat) (o : Obj) (ho : A.heap[b]? = some o) (_ : o.isCells = false) : X.heap[b]? = some o := (h.block b (Array.getElem?_eq_some_iff.1 ho).1).trans ho

set_option maxRecDepth 100000 in
set_option maxHeartbeats 2000000 in
theorem all_seq (n : Nat) (t : It) (l : Bool) (b : ByteArray) (a : Option Addr) (kn cap Bx : Nat) (w0 w : World) (ht : ItemAt w0 t (.agg #[.bool l, .string b, .slice a kn cap])) (hB : Below w0.heap.size w0 w)
    (hX : Has w Bx 29 #[.bool l, .string b, .slice a kn cap]) (hc : countI t ≤ 1099511627776) :
    SeqC Fence.wide n Tryz.prog 50 #[.pointer (some ⟨Bx, 0, none⟩)] (EI w0 0 t) (Kd w0.heap.size) Gr (countI t) w := by
  intro ll J Jx W hW hJA hJxA hY h0
  have hlt := hX.lt
  have LX := hX.below hW hlt
  have HC := tell_any t w0 _ ht ll 7 0 0 J Jx W (by omega) (hB.trans (hW.mono hB.size)) hJA hJxA (fun k args W1 hk hJ hE => by
    have := yieldAt_any (m := 7) (hY k args W1 hk (by simpa using hJ) hE)
    simpa using this) h0
  rw [show ((0 : Nat) : Int) = 0 from rfl] at HC
  have c0 := LX.cell 0 _ rfl
  have c1 := LX.cell 1 _ rfl
  have c2 := LX.cell 2 _ rfl
  replace HC := Lib.hid HC
  have hfin := Lib.hid (show ∀ e X, TellP t 0 w0.heap.size J Jx W e X → (J (countI t) X ∨ ∃ k, k < countI t ∧ Jx k X) ∧ ∃ v, e = .returned (.bool v) from fun e X h => by
    rcases h with ⟨rfl, h1, _⟩ | ⟨rfl, k, h1, h2⟩
    · exact ⟨.inl (by simpa using h1), true, rfl⟩
    · exact ⟨.inr ⟨k, h1, by simpa using h2⟩, false, rfl⟩)
  replace hX := Lib.hid hX
  clear hY hJA hJxA h0 ht hB hc LX
  refine callsIn_of_wp Tryz.func50 rfl trivial ?_ rfl
  simp only [Tryz.ntmps50, List.size_toArray, List.length_cons, List.length_nil, Nat.reduceAdd, Nat.reduceSub, Array.replicate_succ, Array.replicate_zero, List.push_toArray, List.append_toArray, List.nil_append, List.cons_append]
  gi_wp2_with fail
  refine ⟨fun h => absurd h (by simp [Fence.wide]), (callsIn_free free_wide HC.out).mono ?_⟩
  rintro e X hP
  obtain ⟨h1, v, rfl⟩ := hfin.out _ _ hP
  replace h1 := Lib.hid h1
  clear hP
  gi_wp2_with fail
  first | go_end0 | skip
  exact ⟨⟨_, rfl⟩, h1.out⟩

set_option maxRecDepth 100000 in
set_option maxHeartbeats 2000000 in
theorem either_any (t : It) (v : Value) (w : World) (ht : ItemAt w t v) : Calls Tryz.prog 34 #[v] w fun e w' => e = .returned (.bool (decide ((t.list = true → t.bytes = ⟨#[]⟩) ∧ (t.list = false → t.kids.length = 0)))) ∧ Below w.heap.size w w' := by
  obtain ⟨a, cap, rfl, hn, hs, hk⟩ := ht.open
  clear ht hk
  obtain ⟨R, hR⟩ : ∃ R, decide ((t.list = true → t.bytes = ⟨#[]⟩) ∧ (t.list = false → t.kids.length = 0)) = R := ⟨_, rfl⟩
  rw [hR]
  generalize t.list = l at *
  generalize t.bytes = b at *
  generalize t.kids.length = n at *
  have LX := Has.new w 29 #[.bool l, .string b, .slice a n cap]
  have Q := Lib.hid ((Below.refl w.heap.size w).alloc (Nat.le_refl _) (.cells #[.bool l, .string b, .slice a n cap] 29))
  have k0 := LX.cell 0 _ rfl
  have k1 := LX.cell 1 _ rfl
  have k2 := LX.cell 2 _ rfl
  replace LX := Lib.hid LX
  replace hs := Lib.hid hs
  cases l with
  | true =>
    by_cases hb : b = ⟨#[]⟩
    · have hR' := Lib.hid (show R = true by rw [← hR]; simp [hb])
      clear hR
      subst hb
      go_enter Tryz.func34, Tryz.ntmps34
      go_wp2_with fail
      go_ret
      exact ⟨by rw [hR'.out]; rfl, Q.out⟩
    · have hR' := Lib.hid (show R = false by rw [← hR]; simp [hb])
      clear hR
      have hbl := bytes_ne hb
      have hbe : (b.toList == []) = false := by
        have e : (ByteArray.mk #[]).toList = [] := by rw [ByteArray.toList_eq]
        rw [e] at hbl
        exact hbl
      replace hb := Lib.hid hb
      go_enter Tryz.func34, Tryz.ntmps34
      go_wp2_with fail
      go_ret
      exact ⟨by rw [hR'.out]; rfl, Q.out⟩
  | false =>
    by_cases hn0 : n = 0
    · have hR' := Lib.hid (show R = true by rw [← hR]; simp [hn0])
      clear hR
      subst hn0
      go_enter Tryz.func34, Tryz.ntmps34
      go_wp2_with fail
      go_ret
      exact ⟨by rw [hR'.out]; rfl, Q.out⟩
    · have hR' := Lib.hid (show R = false by rw [← hR]; simp [hn0])
      clear hR
      have hnI : ((n : Int) == 0) = false := by simpa using (show ¬ n = 0 by omega)
      replace hn0 := Lib.hid hn0
      go_enter Tryz.func34, Tryz.ntmps34
      go_wp2_with fail
      go_ret
      exact ⟨by rw [hR'.out]; rfl, Q.out⟩

theorem pre_right : ∀ (d : Nat) (t : It), (∀ p ∈ preI d t, p.1 < 16 ∧ (p.2.list = true → p.2.bytes = ⟨#[]⟩) ∧ (p.2.list = false → p.2.kids.length = 0)) ↔ (d < 16 ∧ RightI (16 - d) t) := by
  intro d t
  revert d
  refine It.induct (P := fun t => ∀ d, (∀ p ∈ preI d t, p.1 < 16 ∧ (p.2.list = true → p.2.bytes = ⟨#[]⟩) ∧ (p.2.list = false → p.2.kids.length = 0)) ↔ (d < 16 ∧ RightI (16 - d) t)) ?_ t
  intro t ih d
  have hL : ∀ (ks : List It), (∀ k ∈ ks, k ∈ t.kids) → ((∀ p ∈ preL (d + 1) ks, p.1 < 16 ∧ (p.2.list = true → p.2.bytes = ⟨#[]⟩) ∧ (p.2.list = false → p.2.kids.length = 0)) ↔ ∀ k ∈ ks, d + 1 < 16 ∧ RightI (16 - (d + 1)) k) := by
    intro ks
    induction ks with
    | nil => intro _; simp [preL]
    | cons k ks ih2 =>
      intro hm
      rw [preL]
      constructor
      · intro h x hx
        rcases List.mem_cons.1 hx with rfl | hx
        · exact (ih x (hm x (by simp)) (d + 1)).1 (fun p hp => h p (List.mem_append_left _ hp))
        · exact (ih2 (fun y hy => hm y (by simp [hy]))).1 (fun p hp => h p (List.mem_append_right _ hp)) x hx
      · intro h p hp
        rcases List.mem_append.1 hp with hp | hp
        · exact (ih k (hm k (by simp)) (d + 1)).2 (h k (by simp)) p hp
        · exact (ih2 (fun y hy => hm y (by simp [hy]))).2 (fun y hy => h y (by simp [hy])) p hp
  rw [preI_eq]
  constructor
  · intro h
    obtain ⟨h1, h2, h3⟩ := h (d, t) (by simp)
    obtain ⟨e, he⟩ : ∃ e, 16 - d = e + 1 := ⟨15 - d, by simp only at h1; omega⟩
    refine ⟨h1, ?_⟩
    rw [he]
    refine ⟨h2, h3, fun k hk => ?_⟩
    have := (hL t.kids (fun _ h => h)).1 (fun p hp => h p (List.mem_cons_of_mem _ hp)) k hk
    rw [show e = 16 - (d + 1) by omega]
    exact this.2
  · rintro ⟨h1, h2⟩ p hp
    obtain ⟨e, he⟩ : ∃ e, 16 - d = e + 1 := ⟨15 - d, by omega⟩
    rw [he] at h2
    obtain ⟨h3, h4, h5⟩ := h2
    rcases List.mem_cons.1 hp with rfl | hp
    · exact ⟨h1, h3, h4⟩
    · refine (hL t.kids (fun _ h => h)).2 (fun k hk => ?_) p hp
      have := h5 k hk
      rw [show e = 16 - (d + 1) by omega] at this
      refine ⟨?_, this⟩
      rcases Nat.lt_or_ge (d + 1) 16 with h | h
      · exact h
      · rw [show 16 - (d + 1) = 0 by omega] at this
        exact this.elim

/-- Is what is told in round k as it should be? -/
def FitI (t : It) (k : Nat) : Prop := ∀ p, (preI 0 t)[k]? = some p → p.1 < 16 ∧ (p.2.list = true → p.2.bytes = ⟨#[]⟩) ∧ (p.2.list = false → p.2.kids.length = 0)
theorem okI_of {t : It} (hc : countI t ≤ 5000) (h : ∀ k, k < countI t → FitI t k) : okI t = true := by
  unfold okI
  rw [(rightB_iff 16 t).2 ?_]
  · simpa using hc
  · have := (pre_right 0 t).1 (fun p hp => by
      obtain ⟨j, hj⟩ := List.getElem?_of_mem hp
      have hl := (List.getElem?_eq_some_iff.1 hj).1
      rw [preI_length] at hl
      exact h j hl p hj)
    exact this.2
theorem okI_not {t : It} {k : Nat} (h : ¬ FitI t k) : okI t = false := by
  unfold okI
  rw [rightB_false ?_]
  · simp
  · intro hr
    refine h (fun p hp => (pre_right 0 t).2 ⟨by omega, hr⟩ p (List.mem_of_getElem? hp))
theorem okI_many {t : It} (h : 5000 < countI t) : okI t = false := by
  unfold okI
  rw [show decide (countI t ≤ 5000) = false by simpa using h]
  rfl

/-- What Right's loop holds: how many there were; the boxes of the count and of the answer. -/
def RightSt (w : World) (t : It) (Bm Br : Nat) (k : Nat) (W : World) : Prop :=
  (Has W Bm 3 #[.int .i64 (k : Int)] ∧ Has W Br 4 #[.bool false]) ∧ (Below w.heap.size w W ∧ k ≤ 5000 ∧ ∀ j, j < k → FitI t j)
end Go.Proofs.YtbbpmcebakckaaaGreatDoor

/- Right: whether an item is right. Conditions: the item lies in memory, and holds no more than 2^40 items. -/
namespace Go.Proofs.YtbbpmcebakckaaaGreatDoor
open Go Go.RowKit
attribute [local go_sem] Oper.semAt_some Grows wide_fn

theorem RightSt.later {w : World} {t : It} {Bm Br k : Nat} {A X : World} (h : RightSt w t Bm Br k A) (hb : Below A.heap.size A X) : RightSt w t Bm Br k X :=
  ⟨⟨h.1.1.later hb, h.1.2.later hb⟩, h.2.1.trans (hb.mono h.2.1.size), h.2.2.1, h.2.2.2⟩
theorem Has.own' {A X : World} {row : Option Nat} {B : Nat} {t : TypeId} {cs : Array Value} (h : Has A B t cs) (hg : A.grownBy X row) (hr : ∀ r, row = some r → ∃ o : Obj, A.heap[r]? = some o ∧ o.isCells = false) : Has X B t cs := by
  refine (hg.block B h.lt (fun e => ?_)).trans h
  obtain ⟨o, ho, hc⟩ := hr B e.symm
  rw [show A.heap[B]? = _ from h] at ho
  cases ho
  cases hc
theorem below_own {w A X : World} {row : Option Nat} {n : Nat} (h : Below w.heap.size w A) (hg : A.grownBy X row) (hn : w.heap.size ≤ n) (hr : ∀ r, row = some r → n ≤ r) : Below w.heap.size w X :=
  ⟨hg.os.trans h.os, hg.tape.trans h.tape, hg.output.trans h.output, Nat.le_trans h.size hg.size, fun k hk => (hg.block k (Nat.lt_of_lt_of_le hk h.size) (fun e => by have := hr k e.symm; omega)).trans (h.block k hk)⟩
theorem RightSt.own {w : World} {t : It} {Bm Br n : Nat} (hn : w.heap.size ≤ n) : OwnFrom n (fun k W => RightSt w t Bm Br k W) := fun k A X row hs hg hr =>
  ⟨⟨hs.1.1.own' hg (fun r e => (hr r e).2), hs.1.2.own' hg (fun r e => (hr r e).2)⟩, below_own hs.2.1 hg hn (fun r e => (hr r e).1), hs.2.2.1, hs.2.2.2⟩

theorem ItemAt.own {A X : World} {row : Option Nat} (hg : A.grownBy X row) (hr : ∀ r, row = some r → ∃ o : Obj, A.heap[r]? = some o ∧ o.isCells = false) {t : It} {v : Value} (h : ItemAt A t v) : ItemAt X t v :=
  h.keep (keeps_own hg hr)
theorem Has.ne {A : World} {B C : Nat} {t u : TypeId} {cs ds : Array Value} (h : Has A B t cs) (k : Has A C u ds) (hne : t ≠ u) : B ≠ C := fun e => by
  subst e
  unfold Has at h k
  rw [h] at k
  injection k with k
  injection k with _ k _
  exact hne k
theorem Kd.set {n : Nat} {A : World} {B : Nat} {t : TypeId} {cs : Array Value} (h : Has A B t cs) (ht : t ≠ 29) (hn : n ≤ B) (j : Nat) (v : Value) : Kd n A (A.setCell ⟨B, j, none⟩ v) :=
  ⟨(Below.refl _ A).setCell hn v, fun b cs' m hb hA => (Below.heap_setCell A ⟨B, j, none⟩ v b (fun e => by
    simp only at e
    subst e
    rw [show A.heap[b]? = _ from h] at hA
    injection hA with hA
    injection hA with _ hA _
    exact ht hA)).trans hA⟩

theorem all_any (v0 v1 v2 : Value) (w : World) : Calls Tryz.prog 29 #[.agg #[v0, v1, v2]] w fun e w' => e = .returned (.func (.func 50) #[] #[.pointer (some ⟨w.heap.size, 0, none⟩)]) ∧ w.alloc (.cells #[v0, v1, v2] 29) = w' := by
  go_enter Tryz.func29, Tryz.ntmps29
  go_wp2_with fail
  go_ret
  exact ⟨rfl, rfl⟩

set_option maxRecDepth 100000 in
set_option maxHeartbeats 4000000 in
theorem right_any (t : It) (v : Value) (w : World) (ht : ItemAt w t v) (hc : countI t ≤ 1099511627776) : Calls Tryz.prog 14 #[v] w fun e w' => e = .returned (.bool (okI t)) ∧ Below w.heap.size w w' := by
  have hmx : Tryz.prog.follows .mixedOrders = true := by kernel_rfl
  obtain ⟨a, cap, rfl, hn, hs, hk⟩ := ht.open
  clear hk hs hn
  have HT := Lib.hid ht
  have HC := Lib.hid hc
  clear hc
  generalize t.list = l at *
  generalize t.bytes = b at *
  generalize t.kids.length = kn at *
  refine (callsIn_wide (n := 8)).1 ?_
  refine callsIn_of_wp_marks Tryz.func14 rfl trivial ?_ rfl
  simp only [Tryz.ntmps14, List.size_toArray, List.length_cons, List.length_nil, Nat.reduceAdd, Nat.reduceSub, Array.replicate_succ, Array.replicate_zero, List.push_toArray, List.append_toArray, List.nil_append, List.cons_append]
  have LX := ((Has.new w 29 #[.bool l, .string b, .slice a kn cap]).alloc (.cells #[.bool false] 4)).alloc (.cells #[.int .i64 0] 3)
  have LR := (Has.new (w.alloc (.cells #[.bool l, .string b, .slice a kn cap] 29)) 4 #[.bool false]).alloc (.cells #[.int .i64 0] 3)
  have LM := Has.new ((w.alloc (.cells #[.bool l, .string b, .slice a kn cap] 29)).alloc (.cells #[.bool false] 4)) 3 #[.int .i64 0]
  simp only [World.size_alloc] at LR LM
  have Q := (((Below.refl w.heap.size w).alloc (Nat.le_refl _) (.cells #[.bool l, .string b, .slice a kn cap] 29)).alloc (by simp) (.cells #[.bool false] 4)).alloc (by simp; omega) (.cells #[.int .i64 0] 3)
  have hs1 : (((w.alloc (.cells #[.bool l, .string b, .slice a kn cap] 29)).alloc (.cells #[.bool false] 4)).alloc (.cells #[.int .i64 0] 3)).heap.size = w.heap.size + 3 := by simp
  have c0 := LX.cell 0 _ rfl
  have c1 := LX.cell 1 _ rfl
  have c2 := LX.cell 2 _ rfl
  have c3 := LM.cell 0 _ rfl
  have f3 := LM.frozen 0
  have HA := Lib.hid (all_any (.bool l) (.string b) (.slice a kn cap))
  replace LX := Lib.hid LX
  replace LR := Lib.hid LR
  replace LM := Lib.hid LM
  replace Q := Lib.hid Q
  replace hs1 := Lib.hid hs1
  gi_wp2_with fail
  refine (callsIn_free free_wide (HA.out _)).mono ?_
  rintro _ W2 ⟨rfl, hW2⟩
  generalize ((w.alloc (.cells #[.bool l, .string b, .slice a kn cap] 29)).alloc (.cells #[.bool false] 4)).alloc (.cells #[.int .i64 0] 3) = W1 at *
  have LX2 := Lib.hid (show Has W2 W1.heap.size 29 #[.bool l, .string b, .slice a kn cap] by rw [← hW2]; exact Has.new _ _ _)
  have q2 : Below W1.heap.size W1 W2 := by rw [← hW2]; exact (Below.refl _ _).alloc (Nat.le_refl _) _
  replace LR := Lib.hid (LR.out.later q2)
  replace LM := Lib.hid (LM.out.later q2)
  replace Q := Lib.hid (Q.out.trans (q2.mono Q.out.size))
  have hs2 : W2.heap.size = w.heap.size + 4 := by rw [← hW2, World.size_alloc, hs1.out]
  rw [hs1.out] at LX2 ⊢
  replace hs2 := Lib.hid hs2
  clear c0 c1 c2 c3 f3 hW2 q2 LX hs1 HA
  gi_wp2_with fail
  refine wpIn_rangeFunc_C rfl (by omega) (gf := 50) (lb := #[.pointer (some ⟨w.heap.size + 3, 0, none⟩)]) rfl trivial (enters_of Tryz.func50 (by kernel_rfl) rfl)
    (all_seq _ t l b a kn cap (w.heap.size + 3) w W2 HT.out Q.out LX2.out HC.out) Gr.keeps Kd.trans (fun W l o o' hl h1 h2 _ => Kd.put W l o o' (by have := hs2.out; omega) h1 h2) (fun k args W _ hE => by obtain ⟨d', x, v', _, e, _⟩ := hE; rw [e]; rfl)
    (fun k W => RightSt w t (w.heap.size + 1 + 1) (w.heap.size + 1) k W) (fun c _ W => c = .ret ∧ okI t = false ∧ Has W (w.heap.size + 1) 4 #[.bool false] ∧ Below w.heap.size w W) (RightSt.own (by have := hs2.out; omega))
    (fun c k A X row hs hg hr => ⟨hs.1, hs.2.1, hs.2.2.1.own' hg (fun r e => (hr r e).2), below_own hs.2.2.2 hg (by have := hs2.out; omega) (fun r e => (hr r e).1)⟩)
    (fun s V X hs hb => hs.later hb) (fun c s V X hs hb => ⟨hs.1, hs.2.1, hs.2.2.1.later hb, hs.2.2.2.trans (Below.mono hb hs.2.2.2.size)⟩) ⟨⟨LM.out, LR.out⟩, Q.out, by omega, fun j hj => absurd hj (by omega)⟩
    (fun k a' V => ∃ d x l1 b1 a1 n1 cap1 bx, (preI 0 t)[k]? = some (d, x) ∧ ItemAt w x (.agg #[.bool l1, .string b1, .slice a1 n1 cap1]) ∧ Has V bx 29 #[.bool l1, .string b1, .slice a1 n1 cap1] ∧
      a' = { tmps := #[.agg #[.bool l, .string b, .slice a kn cap], .pointer (some ⟨w.heap.size, 0, none⟩), .pointer (some ⟨w.heap.size + 1, 0, none⟩), .pointer (some ⟨w.heap.size + 1 + 1, 0, none⟩), .int .i64 ((d : Nat) : Int), .pointer (some ⟨bx, 0, none⟩), .agg #[.bool l, .string b, .slice a kn cap], .func (.func 50) #[] #[.pointer (some ⟨w.heap.size + 3, 0, none⟩)], .int .i64 ((d : Nat) : Int), .agg #[.bool l1, .string b1, .slice a1 n1 cap1], undef, undef, undef, undef, undef, undef, undef, undef, undef, undef, undef, undef, undef], defers := [] })
    (fun k a' _ X Y row hs hg hr => by
      obtain ⟨d, x, l1, b1, a1, n1, cap1, bx, h1, h2, h3, e⟩ := hs
      exact ⟨d, x, l1, b1, a1, n1, cap1, bx, h1, h2, h3.own' hg (fun r e => (hr r e).2), e⟩) ?assign ?body ?done ?stop
  case assign =>
    intro ll k args W K hll hkN hst hE hK
    obtain ⟨d, x, v', h1, rfl, h3⟩ := hE
    obtain ⟨a1, cap1, rfl, _, _, _⟩ := h3.open
    have HST := Lib.hid hst
    have HK := Lib.hid hK
    have H3 := Lib.hid h3
    have H1 := Lib.hid h1
    clear hst hkN hK h3 h1
    have NX := Has.new W 29 #[.bool false, .string ⟨#[]⟩, .slice none 0 0]
    have x0 := NX.cell 0 _ rfl
    have x1 := NX.cell 1 _ rfl
    have x2 := NX.cell 2 _ rfl
    have f0 := NX.frozen 0
    have f1 := NX.frozen 1
    have f2 := NX.frozen 2
    replace NX := Lib.hid NX
    generalize x.list = l1 at *
    generalize x.bytes = b1 at *
    generalize x.kids.length = n1 at *
    gi_wp2_with fail
    have hg := (Below.refl W.heap.size W).alloc (Nat.le_refl _) (.cells #[.bool l1, .string b1, .slice a1 n1 cap1] 29)
    exact HK.out _ _ ((KeepsOthers.alloc _ _).from _) (Kd.grow hg HST.out.2.1.size) (HST.out.later hg) ⟨d, x, l1, b1, a1, n1, cap1, W.heap.size, H1.out, H3.out, Has.new _ _ _, rfl⟩
  case body =>
    rintro ll k a' W hl hlo hkN hst ⟨d, x, l1, b1, a1, n1, cap1, bx, h1, h2, h3, rfl⟩
    have hne := h3.ne hst.1.1 (by decide)
    have hne2 := hst.1.2.ne hst.1.1 (by decide)
    have cM := hst.1.1.cell 0 _ rfl
    have fM := hst.1.1.frozen 0
    have cR := hst.1.2.cell 0 _ rfl
    have fR := hst.1.2.frozen 0
    have e0 := h3.cell 0 _ rfl
    have e1 := h3.cell 1 _ rfl
    have e2 := h3.cell 2 _ rfl
    have hkd := Kd.set (n := w.heap.size) hst.1.1 (by decide) (by omega) 0 (.int .i64 (((k + 1 : Nat)) : Int))
    have LM2 : Has (W.setCell ⟨w.heap.size + 1 + 1, 0, none⟩ (.int .i64 (((k + 1 : Nat)) : Int))) (w.heap.size + 1 + 1) 3 #[.int .i64 (((k + 1 : Nat)) : Int)] := hst.1.1.set 0 _
    have LR2 : Has (W.setCell ⟨w.heap.size + 1 + 1, 0, none⟩ (.int .i64 (((k + 1 : Nat)) : Int))) (w.heap.size + 1) 4 #[.bool false] := hst.1.2.other hne2 _
    have Q2 := hst.2.1.setCell (p := ⟨w.heap.size + 1 + 1, 0, none⟩) (by simp; omega) (.int .i64 (((k + 1 : Nat)) : Int))
    have hk0 : k ≤ 5000 := hst.2.2.1
    have hfit := Lib.hid hst.2.2.2
    have HI2 := Lib.hid (either_any x (.agg #[.bool l1, .string b1, .slice a1 n1 cap1]) (W.setCell ⟨w.heap.size + 1 + 1, 0, none⟩ (.int .i64 (((k + 1 : Nat)) : Int))) (h2.later Q2))
    have hmany := Lib.hid (show ¬ k + 1 ≤ 5000 → okI t = false from fun h => okI_many (by omega))
    have hbad := Lib.hid (show ¬ (d < 16 ∧ (x.list = true → x.bytes = ⟨#[]⟩) ∧ (x.list = false → x.kids.length = 0)) → okI t = false from fun h => okI_not (k := k) (fun hf => h (hf _ h1)))
    have hgood := Lib.hid (show d < 16 → decide ((x.list = true → x.bytes = ⟨#[]⟩) ∧ (x.list = false → x.kids.length = 0)) = true → FitI t k from fun h h' p hp => by
      rw [h1] at hp
      injection hp with hp
      subst hp
      exact ⟨h, of_decide_eq_true h'⟩)
    have hbad1 := Lib.hid (show ¬ d < 16 → okI t = false from fun h => hbad.out (fun hh => h hh.1))
    have hbad2 := Lib.hid (show decide ((x.list = true → x.bytes = ⟨#[]⟩) ∧ (x.list = false → x.kids.length = 0)) = false → okI t = false from fun h => hbad.out (fun hh => by simp only [decide_eq_false_iff_not] at h; exact h hh.2))
    have hkk := Lib.hid (show W2.heap.size ≤ W2.heap.size ∧ w.heap.size + 1 < W2.heap.size from ⟨Nat.le_refl _, by have := hs2.out; omega⟩)
    obtain ⟨R, hR⟩ : ∃ R, decide ((x.list = true → x.bytes = ⟨#[]⟩) ∧ (x.list = false → x.kids.length = 0)) = R := ⟨_, rfl⟩
    rw [hR] at HI2 hgood hbad2
    have hcast : ((k + 1 : Nat) : Int) = (k : Int) + 1 := by omega
    rw [hcast] at hkd LM2 LR2 Q2 HI2
    have hcst := Lib.hid hcast
    have hkI : (k : Int) ≤ 5000 := by omega
    have hk0I : (0 : Int) ≤ (k : Int) := by omega
    have hdI0 : (0 : Int) ≤ (d : Int) := by omega
    have KE := Lib.hid ((KeepsOthers.setCell W ⟨w.heap.size + 1 + 1, 0, none⟩ (.int .i64 ((k : Int) + 1))).from W2.heap.size)
    replace hkd := Lib.hid hkd
    replace LM2 := Lib.hid LM2
    replace LR2 := Lib.hid LR2
    replace Q2 := Lib.hid Q2
    replace hne := Lib.hid hne
    have hneS : ¬ bx = w.heap.size + 1 + 1 := hne.out
    clear hbad h1 h2 h3 hst hR hcast hl hlo hkN
    have hstop : ∀ X : World, KeepsFrom W2.heap.size W X → Has X (w.heap.size + 1) 4 #[.bool false] → Below w.heap.size w X → okI t = false →
        roundN W2.heap.size (Kd w.heap.size) (fun k W => RightSt w t (w.heap.size + 1 + 1) (w.heap.size + 1) k W) (fun c (_ : Nat) W => c = .ret ∧ okI t = false ∧ Has W (w.heap.size + 1) 4 #[.bool false] ∧ Below w.heap.size w W) k W .ret { tmps := #[], defers := [] } (X.setCell ⟨w.heap.size + 1, 0, none⟩ (.bool false)) := fun X h1 h2 h3 h4 =>
      ⟨h1.trans ((KeepsOthers.setCell _ _ _).from _), rfl, h4, h2.set 0 _, h3.setCell (by simp) _⟩
    replace hstop := Lib.hid hstop
    by_cases hk1 : k + 1 ≤ 5000
    · have hk1I : (k : Int) + 1 ≤ 5000 := by omega
      have hb1 : decide (5000 < (k : Int) + 1) = false := by simpa using hk1I
      by_cases hd : d < 16
      · have hdI : (d : Int) < 16 := by omega
        have hb2 : decide (16 ≤ (d : Int)) = false := by simpa using hdI
        gi_wp2_with fail
        refine (callsIn_free (free_round ll) HI2.out).mono ?_
        rintro _ W3 ⟨rfl, q⟩
        have KE3 := Lib.hid (KE.out.trans (⟨q.size, fun k _ _ h _ => (q.block k (Array.getElem?_eq_some_iff.1 h).1).trans h⟩ : KeepsFrom W2.heap.size _ _))
        have kd3 := Lib.hid (hkd.out.trans (Kd.grow q (Q2.out.size)))
        have LM3 := Lib.hid (LM2.out.later q)
        have LR3 := Lib.hid (LR2.out.later q)
        have Q3 := Lib.hid (Q2.out.trans (q.mono Q2.out.size))
        have c3 := LR3.out.cell 0 _ rfl
        have f3 := LR3.out.frozen 0
        clear q HI2 cM fM cR fR e0 e1 e2
        cases R with
        | true =>
          have hg := Lib.hid (hgood.out hd rfl)
          gi_wp2_with fail
          refine ⟨KE3.out, kd3.out, ⟨by rw [hcst.out]; exact LM3.out, LR3.out⟩, Q3.out, hk1, fun j hj => ?_⟩
          by_cases hjk : j = k
          · rw [hjk]; exact hg.out
          · exact hfit.out j (by omega)
        | false =>
          have hb := Lib.hid (hbad2.out rfl)
          gi_wp2_with fail
          exact hstop.out _ KE3.out LR3.out Q3.out hb.out
      · have hb2 : decide (16 ≤ (d : Int)) = true := decide_eq_true (by omega)
        have hb := Lib.hid (hbad1.out hd)
        have c3 := LR2.out.cell 0 _ rfl
        have f3 := LR2.out.frozen 0
        gi_wp2_with fail
        exact hstop.out _ KE.out LR2.out Q2.out hb.out
    · have hb := Lib.hid (hmany.out hk1)
      have hb1 : decide (5000 < (k : Int) + 1) = true := decide_eq_true (by omega)
      have c3 := LR2.out.cell 0 _ rfl
      have f3 := LR2.out.frozen 0
      gi_wp2_with fail
      exact hstop.out _ KE.out LR2.out Q2.out hb.out
  case done =>
    rintro D W hD hst hK
    have hok := Lib.hid (show okI t = true from okI_of hst.2.2.1 hst.2.2.2)
    have LR2 := hst.1.2
    have Q2 := hst.2.1
    have hDR : w.heap.size + 1 ≠ D := by have := hs2.out; omega
    have c3 := LR2.cell 0 _ rfl
    have f3 := LR2.frozen 0
    have hK2 := Lib.hid (show (W.setCell ⟨w.heap.size + 1, 0, none⟩ (.bool true)).heap[D]? = some (.deferred (some [])) from (Below.heap_setCell W ⟨w.heap.size + 1, 0, none⟩ _ D (fun e => hDR e.symm)).trans hK)
    have LR3 := Lib.hid (show Has ((W.setCell ⟨w.heap.size + 1, 0, none⟩ (.bool true)).putObj D (.deferred none)) (w.heap.size + 1) 4 #[.bool true] from (World.putObj_heap_other hDR).trans (LR2.set 0 _))
    have Q3 := Lib.hid (show Below w.heap.size w ((W.setCell ⟨w.heap.size + 1, 0, none⟩ (.bool true)).putObj D (.deferred none)) from (Q2.setCell (by simp) _).trans ⟨rfl, rfl, rfl, by simp, fun k hk => World.putObj_heap_other (by have := hs2.out; omega)⟩)
    clear hst hK LR2 Q2 hDR
    gi_wp2_with fail
    refine ⟨by simp, .inl ⟨_, _, rfl, run_takeDeferred hK2.out, ?_⟩⟩
    have y0 := LR3.out.cell 0 _ rfl
    exact ⟨.bool true, by simp [results, Tryz.results14, go_sem, y0], by rw [hok.out], Q3.out⟩
  case stop =>
    rintro D c k W hD hk ⟨rfl, h1, h2, h3⟩ hK
    have hDR : w.heap.size + 1 ≠ D := by have := hs2.out; omega
    have LR3 := Lib.hid (show Has (W.putObj D (.deferred none)) (w.heap.size + 1) 4 #[.bool false] from (World.putObj_heap_other hDR).trans h2)
    have Q3 := Lib.hid (show Below w.heap.size w (W.putObj D (.deferred none)) from h3.trans ⟨rfl, rfl, rfl, by simp, fun k hk => World.putObj_heap_other (by have := hs2.out; omega)⟩)
    have hok := Lib.hid h1
    replace hK := Lib.hid hK
    clear h1 h2 h3 hDR
    gi_wp2_with fail
    refine ⟨by simp, .inl ⟨_, _, rfl, run_takeDeferred hK.out, ?_⟩⟩
    have y0 := LR3.out.cell 0 _ rfl
    exact ⟨.bool false, by simp [results, Tryz.results14, go_sem, y0], by rw [hok.out], Q3.out⟩
end Go.Proofs.YtbbpmcebakckaaaGreatDoor
