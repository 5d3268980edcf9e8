import Derived.Test.YtbbpmcebakckaaaGreatDoorU15
/- The reader: item. Conditions: the reader lies in memory; places are in reach. -/
namespace Go.Proofs.YtbbpmcebakckaaaGreatDoor
open Go Go.RowKit
attribute [local go_sem] Oper.semAt_some Grows wide_fn

theorem rdI_succ {s : ByteArray} {d e a m : Nat} (hm : m < 5000) (ha : a < e) : rdI s (d + 1) e a m = if byteAt s.data.toList a < 192 then rdText s.data.toList e a (m + 1) else rdList s d e a (m + 1) := by
  unfold rdI
  rw [rdItem]
  unfold rdStep
  rw [if_neg (by omega), if_neg (by omega)]
  unfold rdText rdList
  by_cases h1 : byteAt s.data.toList a < 128
  · rw [if_pos h1, if_pos (by omega), if_pos h1]
  · rw [if_neg h1, if_neg h1]
    by_cases h4 : byteAt s.data.toList a < 192
    · rw [if_pos h4, if_pos h4]
      cases rdHead s.data.toList (byteAt s.data.toList a - 128) e a <;> rfl
    · rw [if_neg h4, if_neg h4]
      rcases rdHead s.data.toList (byteAt s.data.toList a - 192) e a with ⟨n, fr, x⟩ | ⟨x, p⟩
      · dsimp only
        cases rdLoop (rdItem 5000 s.data.toList d (fr + n)) (fr + n) (fr + n - fr) fr (m + 1) [] <;> rfl
      · rfl
theorem text_all (s : ByteArray) (a m e c R : Nat) (w : World) (r : Rd It) (hR : Has w R 100 (rdC s a m)) (hs : s.size ≤ 1099511627776) (he : e ≤ s.size) (ha : a < e) (hc2 : c < 192) (hbc : byteAt s.data.toList a = c) (hr : rdText s.data.toList e a m = r) :
    Calls Tryz.prog 76 #[.pointer (some ⟨R, 0, none⟩), .int .i64 (c : Int), .int .i64 (e : Int)] w (ItP s R w r) := by
  rw [← hr]
  by_cases h : c < 128
  · have : rdText s.data.toList e a m = .ok (.mk false ⟨((s.data.toList.drop a).take 1).toArray⟩ []) (a + 1) m := by
      unfold rdText
      rw [hbc, if_pos h]
    rw [this]
    exact text_small s a m e c R w hR hs (by omega) h
  · exact text_head s a m e c R w hR hs he ha (by omega) hc2 hbc
theorem byte_idx' {s : ByteArray} {a : Nat} (h : a < s.size) : ((s[a]'h).toNat : Nat) = byteAt s.data.toList a := by
  rw [byteAt_get s.data.toList (by rw [← size_list]; exact h)]
  rfl

set_option maxRecDepth 100000 in
set_option maxHeartbeats 4000000 in
theorem item_deep (s : ByteArray) (R d e a m : Nat) (w : World) (hR : Has w R 100 (rdC s a m)) (ha1 : a ≤ 1099511627776) (hm1 : m ≤ 5000) (hd : d = 0) :
    Calls Tryz.prog 56 #[.pointer (some ⟨R, 0, none⟩), .int .i64 (e : Int), .int .i64 ((16 - d : Nat) : Int)] w (ItP s R w (rdI s d e a m)) := by
  have hmx : Tryz.prog.follows .mixedOrders = true := by kernel_rfl
  have LS := Has.new w 29 #[.bool false, .string ⟨#[]⟩, .slice none 0 0]
  have LR := hR.alloc (.cells #[.bool false, .string ⟨#[]⟩, .slice none 0 0] 29)
  have Q := (Below.refl w.heap.size w).alloc (Nat.le_refl _) (.cells #[.bool false, .string ⟨#[]⟩, .slice none 0 0] 29)
  have hRlt := hR.lt
  have hs1 : (w.alloc (.cells #[.bool false, .string ⟨#[]⟩, .slice none 0 0] 29)).heap.size = w.heap.size + 1 := by simp
  obtain ⟨W1, hW1⟩ : ∃ W1, w.alloc (.cells #[.bool false, .string ⟨#[]⟩, .slice none 0 0] 29) = W1 := ⟨_, rfl⟩
  rw [hW1] at LS LR Q hs1
  have hr : rdI s d e a m = .no 13 a := by
    subst hd
    unfold rdI
    rw [rdItem]
  rw [hr]
  have HB := Lib.hid (begin_deep s a m e (16 - d) R W1 LR (by omega) (by omega) (by omega))
  have hE := Lib.hid (show ∀ y, Below w.heap.size w y → ItP s R w (.no 13 a) (.returned (.tuple #[.agg #[.bool false, .string ⟨#[]⟩, .slice none 0 0], fltV 13 a])) y from fun y h2 => ⟨rfl, grown_of_below h2 _⟩)
  have f0 := LS.frozen 0
  have f1 := LS.frozen 1
  have f2 := LS.frozen 2
  have x0 := LS.cell 0 _ rfl
  have x1 := LS.cell 1 _ rfl
  have x2 := LS.cell 2 _ rfl
  have S := Lib.hid (((LS.set 0 (.bool false)).set 1 (.string ⟨#[]⟩)).set 2 (.slice none 0 0))
  replace LS := Lib.hid LS
  replace LR := Lib.hid LR
  replace Q := Lib.hid Q
  replace hs1 := Lib.hid hs1
  clear hr hR
  generalize ((16 - d : Nat) : Int) = dI at *
  go_enter Tryz.func56, Tryz.ntmps56
  go_wp2_with fail
  refine HB.out.mono ?_
  rintro _ W2 ⟨rfl, rfl⟩
  go_wp2_with fail
  have z0 := S.out.cell 0 _ rfl
  have z1 := S.out.cell 1 _ rfl
  have z2 := S.out.cell 2 _ rfl
  exact bodyPost_ret (v := .tuple #[.agg #[.bool false, .string ⟨#[]⟩, .slice none 0 0], fltV 13 a]) (by simp [results, Tryz.results56, go_sem, z0, z1, z2]) rfl (hE.out _ (((Q.out.setCell (p := ⟨w.heap.size, 0, none⟩) (by simp) (.bool false)).setCell (p := ⟨w.heap.size, 1, none⟩) (by simp) (.string ⟨#[]⟩)).setCell (p := ⟨w.heap.size, 2, none⟩) (by simp) (.slice none 0 0)))

set_option maxRecDepth 100000 in
set_option maxHeartbeats 4000000 in
theorem item_many (s : ByteArray) (R d e a m : Nat) (w : World) (hR : Has w R 100 (rdC s a m)) (ha1 : a ≤ 1099511627776) (hm1 : m ≤ 5000) (hd : 1 ≤ d) (hm : 5000 ≤ m) :
    Calls Tryz.prog 56 #[.pointer (some ⟨R, 0, none⟩), .int .i64 (e : Int), .int .i64 ((16 - d : Nat) : Int)] w (ItP s R w (rdI s d e a m)) := by
  have hmx : Tryz.prog.follows .mixedOrders = true := by kernel_rfl
  have LS := Has.new w 29 #[.bool false, .string ⟨#[]⟩, .slice none 0 0]
  have LR := hR.alloc (.cells #[.bool false, .string ⟨#[]⟩, .slice none 0 0] 29)
  have Q := (Below.refl w.heap.size w).alloc (Nat.le_refl _) (.cells #[.bool false, .string ⟨#[]⟩, .slice none 0 0] 29)
  have hRlt := hR.lt
  have hs1 : (w.alloc (.cells #[.bool false, .string ⟨#[]⟩, .slice none 0 0] 29)).heap.size = w.heap.size + 1 := by simp
  obtain ⟨W1, hW1⟩ : ∃ W1, w.alloc (.cells #[.bool false, .string ⟨#[]⟩, .slice none 0 0] 29) = W1 := ⟨_, rfl⟩
  rw [hW1] at LS LR Q hs1
  have hr : rdI s d e a m = .no 2 a := by
    obtain ⟨d', rfl⟩ : ∃ d', d = d' + 1 := ⟨d - 1, by omega⟩
    unfold rdI
    rw [rdItem]
    unfold rdStep
    rw [if_pos hm]
  rw [hr]
  have HB := Lib.hid (begin_many s a m e (16 - d) R W1 LR (by omega) (by omega) (by omega) hm)
  have hE := Lib.hid (show ∀ y, Below w.heap.size w y → ItP s R w (.no 2 a) (.returned (.tuple #[.agg #[.bool false, .string ⟨#[]⟩, .slice none 0 0], fltV 2 a])) y from fun y h2 => ⟨rfl, grown_of_below h2 _⟩)
  have f0 := LS.frozen 0
  have f1 := LS.frozen 1
  have f2 := LS.frozen 2
  have x0 := LS.cell 0 _ rfl
  have x1 := LS.cell 1 _ rfl
  have x2 := LS.cell 2 _ rfl
  have S := Lib.hid (((LS.set 0 (.bool false)).set 1 (.string ⟨#[]⟩)).set 2 (.slice none 0 0))
  replace LS := Lib.hid LS
  replace LR := Lib.hid LR
  replace Q := Lib.hid Q
  replace hs1 := Lib.hid hs1
  clear hr hR
  generalize ((16 - d : Nat) : Int) = dI at *
  go_enter Tryz.func56, Tryz.ntmps56
  go_wp2_with fail
  refine HB.out.mono ?_
  rintro _ W2 ⟨rfl, rfl⟩
  go_wp2_with fail
  have z0 := S.out.cell 0 _ rfl
  have z1 := S.out.cell 1 _ rfl
  have z2 := S.out.cell 2 _ rfl
  exact bodyPost_ret (v := .tuple #[.agg #[.bool false, .string ⟨#[]⟩, .slice none 0 0], fltV 2 a]) (by simp [results, Tryz.results56, go_sem, z0, z1, z2]) rfl (hE.out _ (((Q.out.setCell (p := ⟨w.heap.size, 0, none⟩) (by simp) (.bool false)).setCell (p := ⟨w.heap.size, 1, none⟩) (by simp) (.string ⟨#[]⟩)).setCell (p := ⟨w.heap.size, 2, none⟩) (by simp) (.slice none 0 0)))

set_option maxRecDepth 100000 in
set_option maxHeartbeats 4000000 in
theorem item_short (s : ByteArray) (R d e a m : Nat) (w : World) (hR : Has w R 100 (rdC s a m)) (ha1 : a ≤ 1099511627776) (hm1 : m ≤ 5000) (hd : 1 ≤ d) (hm : m < 5000) (ha : e ≤ a) :
    Calls Tryz.prog 56 #[.pointer (some ⟨R, 0, none⟩), .int .i64 (e : Int), .int .i64 ((16 - d : Nat) : Int)] w (ItP s R w (rdI s d e a m)) := by
  have hmx : Tryz.prog.follows .mixedOrders = true := by kernel_rfl
  have LS := Has.new w 29 #[.bool false, .string ⟨#[]⟩, .slice none 0 0]
  have LR := hR.alloc (.cells #[.bool false, .string ⟨#[]⟩, .slice none 0 0] 29)
  have Q := (Below.refl w.heap.size w).alloc (Nat.le_refl _) (.cells #[.bool false, .string ⟨#[]⟩, .slice none 0 0] 29)
  have hRlt := hR.lt
  have hs1 : (w.alloc (.cells #[.bool false, .string ⟨#[]⟩, .slice none 0 0] 29)).heap.size = w.heap.size + 1 := by simp
  obtain ⟨W1, hW1⟩ : ∃ W1, w.alloc (.cells #[.bool false, .string ⟨#[]⟩, .slice none 0 0] 29) = W1 := ⟨_, rfl⟩
  rw [hW1] at LS LR Q hs1
  have hr : rdI s d e a m = .no 10 a := by
    obtain ⟨d', rfl⟩ : ∃ d', d = d' + 1 := ⟨d - 1, by omega⟩
    unfold rdI
    rw [rdItem]
    unfold rdStep
    rw [if_neg (by omega), if_pos ha]
  rw [hr]
  have HB := Lib.hid (begin_short s a m e (16 - d) R W1 LR (by omega) (by omega) (by omega) hm ha)
  have hE := Lib.hid (show ∀ y, Below w.heap.size w y → ItP s R w (.no 10 a) (.returned (.tuple #[.agg #[.bool false, .string ⟨#[]⟩, .slice none 0 0], fltV 10 a])) y from fun y h2 => ⟨rfl, grown_of_below h2 _⟩)
  have f0 := LS.frozen 0
  have f1 := LS.frozen 1
  have f2 := LS.frozen 2
  have x0 := LS.cell 0 _ rfl
  have x1 := LS.cell 1 _ rfl
  have x2 := LS.cell 2 _ rfl
  have S := Lib.hid (((LS.set 0 (.bool false)).set 1 (.string ⟨#[]⟩)).set 2 (.slice none 0 0))
  replace LS := Lib.hid LS
  replace LR := Lib.hid LR
  replace Q := Lib.hid Q
  replace hs1 := Lib.hid hs1
  clear hr hR
  generalize ((16 - d : Nat) : Int) = dI at *
  go_enter Tryz.func56, Tryz.ntmps56
  go_wp2_with fail
  refine HB.out.mono ?_
  rintro _ W2 ⟨rfl, rfl⟩
  go_wp2_with fail
  have z0 := S.out.cell 0 _ rfl
  have z1 := S.out.cell 1 _ rfl
  have z2 := S.out.cell 2 _ rfl
  exact bodyPost_ret (v := .tuple #[.agg #[.bool false, .string ⟨#[]⟩, .slice none 0 0], fltV 10 a]) (by simp [results, Tryz.results56, go_sem, z0, z1, z2]) rfl (hE.out _ (((Q.out.setCell (p := ⟨w.heap.size, 0, none⟩) (by simp) (.bool false)).setCell (p := ⟨w.heap.size, 1, none⟩) (by simp) (.string ⟨#[]⟩)).setCell (p := ⟨w.heap.size, 2, none⟩) (by simp) (.slice none 0 0)))

set_option maxRecDepth 100000 in
set_option maxHeartbeats 4000000 in
theorem item_text (s : ByteArray) (R d e a m : Nat) (w : World) (hR : Has w R 100 (rdC s a m)) (ha1 : a ≤ 1099511627776) (hm1 : m ≤ 5000) (hs : s.size ≤ 1099511627776) (he : e ≤ s.size) (hm : m < 5000) (ha : a < e) (hd : 1 ≤ d) (hd2 : d ≤ 16) (hc0 : byteAt s.data.toList a < 192) :
    Calls Tryz.prog 56 #[.pointer (some ⟨R, 0, none⟩), .int .i64 (e : Int), .int .i64 ((16 - d : Nat) : Int)] w (ItP s R w (rdI s d e a m)) := by
  have hmx : Tryz.prog.follows .mixedOrders = true := by kernel_rfl
  have LS := Has.new w 29 #[.bool false, .string ⟨#[]⟩, .slice none 0 0]
  have LR := hR.alloc (.cells #[.bool false, .string ⟨#[]⟩, .slice none 0 0] 29)
  have Q := (Below.refl w.heap.size w).alloc (Nat.le_refl _) (.cells #[.bool false, .string ⟨#[]⟩, .slice none 0 0] 29)
  have hRlt := hR.lt
  have hs1 : (w.alloc (.cells #[.bool false, .string ⟨#[]⟩, .slice none 0 0] 29)).heap.size = w.heap.size + 1 := by simp
  obtain ⟨W1, hW1⟩ : ∃ W1, w.alloc (.cells #[.bool false, .string ⟨#[]⟩, .slice none 0 0] 29) = W1 := ⟨_, rfl⟩
  rw [hW1] at LS LR Q hs1
  obtain ⟨c, hc⟩ : ∃ c, byteAt s.data.toList a = c := ⟨_, rfl⟩
  have hclt : c < 256 := by rw [← hc]; exact byteAt_lt _ _
  obtain ⟨d', rfl⟩ : ∃ d', d = d' + 1 := ⟨d - 1, by omega⟩
  obtain ⟨r, hr⟩ : ∃ r, rdI s (d' + 1) e a m = r := ⟨_, rfl⟩
  rw [hr]
  have hr2 := hr
  rw [rdI_succ hm ha, if_pos hc0] at hr2
  have hcI2 : ¬ (192 : Int) ≤ (c : Int) := by omega
  have HB := begin_ok s a m e (16 - (d' + 1)) R W1 LR (by omega) (by omega) (by omega) hm ha
  have LR2 := LR.set 2 (.int .i64 ((m : Int) + 1))
  have LS2 := LS.other (p := ⟨R, 2, none⟩) (by simp; omega) (.int .i64 ((m : Int) + 1))
  have G2 := grown_set' (grown_of_below Q (some R)) 2 (.int .i64 ((m : Int) + 1))
  have hs2 : (W1.setCell ⟨R, 2, none⟩ (.int .i64 ((m : Int) + 1))).heap.size = w.heap.size + 1 := by simpa [World.setCell] using hs1
  have HC : ∀ X, Has X R 100 (rdC s a (m + 1)) → _ := fun X hX => show Calls Tryz.prog 76 #[.pointer (some ⟨R, 0, none⟩), .int .i64 (c : Int), .int .i64 (e : Int)] X (ItP s R X r) from text_all s a (m + 1) e c R X r hX hs he ha (by omega) hc hr2
  have hal : a < s.size := by omega
  have hbv : (((s[a]'hal).toNat : Nat) : Int) = (c : Int) := by rw [byte_idx' hal, hc]
  have haI0 : (0 : Int) ≤ (a : Int) := by omega
  have haI1 : (a : Int) < (s.size : Int) := by omega
  have hcI0 : (0 : Int) ≤ (c : Int) := by omega
  have hcI1 : (c : Int) < 256 := by omega
  have hta : ((a : Int)).toNat = a := by omega
  replace HB := Lib.hid HB
  replace HC := Lib.hid HC
  replace LS := Lib.hid LS
  replace LR := Lib.hid LR
  replace Q := Lib.hid Q
  clear hr hR hc hs1 ha1 hm1
  obtain ⟨dI, hdI⟩ : ∃ dI, ((16 - (d' + 1) : Nat) : Int) = dI := ⟨_, rfl⟩
  simp only [hdI] at HB HC ⊢
  clear hdI
  have hw1 := Lib.hid (And.intro hal (And.intro hRlt hRlt))
  go_enter Tryz.func56, Tryz.ntmps56
  go_wp2_with fail
  refine HB.out.mono ?_
  rintro _ W2 ⟨rfl, hW2⟩
  rw [hW2] at LR2 LS2 G2 hs2
  have LR3 : Has W2 R 100 (rdC s a (m + 1)) := by
    show Has W2 R _ #[.string s, .int .i64 (a : Int), .int .i64 ((m + 1 : Nat) : Int)]
    rw [Int.natCast_add]
    exact LR2
  have d0 : ∀ X : Ext W2, X.w.cell? ⟨R, 0, none⟩ = some (.string s) := fun X => LR3.ext X 0 _ rfl
  have d1 : ∀ X : Ext W2, X.w.cell? ⟨R, 1, none⟩ = some (.int .i64 (a : Int)) := fun X => LR3.ext X 1 _ rfl
  replace LR3 := Lib.hid LR3
  replace LS2 := Lib.hid LS2
  replace G2 := Lib.hid G2
  replace hs2 := Lib.hid hs2
  clear LR2 LS LR Q hW2 HB hW1
  go_wp2_with fail
  refine wp_region_quietL (C := Grows W2) hmx (by kernel_rfl) (grows_refl W2) ?_
  repeat (go_big_quiet_step (fail))
  refine wpQuiet_nil ?_
  rintro _ ⟨X, rfl⟩
  have HCX := Lib.hid (HC.out X.w (LR3.out.later X.below))
  have LS := Lib.hid (LS2.out.later X.below)
  have G := Lib.hid (grown_then_below G2.out X.below)
  have hXsz := Lib.hid (show w.heap.size < X.w.heap.size by have := X.below.size; have := hs2.out; omega)
  clear d0 d1 LR3 LS2 G2 HC hal hbv hta
  go_wp2_with fail
  refine HCX.out.mono ?_
  rintro e2 W5 hP
  cases r with
  | ok t a' m' =>
    obtain ⟨v, rfl, hv, hR2, hg2⟩ := hP
    obtain ⟨q, cap, rfl, _, _, _⟩ := hv.open
    have LS5 := LS.out.sr hg2 (by omega)
    have G5 := grown_trans G.out hg2
    have f0 := LS5.frozen 0
    have f1 := LS5.frozen 1
    have f2 := LS5.frozen 2
    have x0 := LS5.cell 0 _ rfl
    have x1 := LS5.cell 1 _ rfl
    have x2 := LS5.cell 2 _ rfl
    have hXs := hXsz.out
    have S := ((LS5.set 0 (.bool t.list)).set 1 (.string t.bytes)).set 2 (.slice q t.kids.length cap)
    have hE := Lib.hid (show ItP s R w (.ok t a' m') (.returned (.tuple #[.agg #[.bool t.list, .string t.bytes, .slice q t.kids.length cap], .nilIface])) (((W5.setCell ⟨w.heap.size, 0, none⟩ (.bool t.list)).setCell ⟨w.heap.size, 1, none⟩ (.string t.bytes)).setCell ⟨w.heap.size, 2, none⟩ (.slice q t.kids.length cap)) from
      ⟨_, rfl, hv.keep (fun b hb _ => (Below.heap_setCell _ _ _ b (by show b ≠ w.heap.size; omega)).trans ((Below.heap_setCell _ _ _ b (by show b ≠ w.heap.size; omega)).trans (Below.heap_setCell _ _ _ b (by show b ≠ w.heap.size; omega)))) (fun b hb _ => by omega),
        ((hR2.other (p := ⟨w.heap.size, 0, none⟩) (by simp; omega) _).other (p := ⟨w.heap.size, 1, none⟩) (by simp; omega) _).other (p := ⟨w.heap.size, 2, none⟩) (by simp; omega) _,
        grown_set (grown_set (grown_set G5 (p := ⟨w.heap.size, 0, none⟩) (.inr (Nat.le_refl _)) _) (p := ⟨w.heap.size, 1, none⟩) (.inr (Nat.le_refl _)) _) (p := ⟨w.heap.size, 2, none⟩) (.inr (Nat.le_refl _)) _⟩)
    have z0 := Lib.hid (S.cell 0 _ rfl)
    have z1 := Lib.hid (S.cell 1 _ rfl)
    have z2 := Lib.hid (S.cell 2 _ rfl)
    clear hv hR2 hg2 G5 S
    replace LS5 := Lib.hid LS5
    generalize t.list = tl at *
    generalize t.bytes = tb at *
    generalize t.kids.length = tn at *
    go_wp2_with fail
    replace z0 := z0.out
    replace z1 := z1.out
    replace z2 := z2.out
    exact bodyPost_ret (v := .tuple #[.agg #[.bool tl, .string tb, .slice q tn cap], .nilIface]) (by simp [results, Tryz.results56, go_sem, z0, z1, z2]) rfl hE.out
  | no x p =>
    obtain ⟨rfl, hg2⟩ := hP
    have LS5 := LS.out.sr hg2 (by omega)
    have G5 := grown_trans G.out hg2
    have f0 := LS5.frozen 0
    have f1 := LS5.frozen 1
    have f2 := LS5.frozen 2
    have x0 := LS5.cell 0 _ rfl
    have x1 := LS5.cell 1 _ rfl
    have x2 := LS5.cell 2 _ rfl
    have S := ((LS5.set 0 (.bool false)).set 1 (.string ⟨#[]⟩)).set 2 (.slice none 0 0)
    have hE := Lib.hid (show ItP s R w (.no x p) (.returned (.tuple #[.agg #[.bool false, .string ⟨#[]⟩, .slice none 0 0], fltV x p])) (((W5.setCell ⟨w.heap.size, 0, none⟩ (.bool false)).setCell ⟨w.heap.size, 1, none⟩ (.string ⟨#[]⟩)).setCell ⟨w.heap.size, 2, none⟩ (.slice none 0 0)) from
      ⟨rfl, grown_set (grown_set (grown_set G5 (p := ⟨w.heap.size, 0, none⟩) (.inr (Nat.le_refl _)) _) (p := ⟨w.heap.size, 1, none⟩) (.inr (Nat.le_refl _)) _) (p := ⟨w.heap.size, 2, none⟩) (.inr (Nat.le_refl _)) _⟩)
    have z0 := Lib.hid (S.cell 0 _ rfl)
    have z1 := Lib.hid (S.cell 1 _ rfl)
    have z2 := Lib.hid (S.cell 2 _ rfl)
    clear hg2 G5 S
    replace LS5 := Lib.hid LS5
    go_wp2_with fail
    replace z0 := z0.out
    replace z1 := z1.out
    replace z2 := z2.out
    exact bodyPost_ret (v := .tuple #[.agg #[.bool false, .string ⟨#[]⟩, .slice none 0 0], fltV x p]) (by simp [results, Tryz.results56, go_sem, z0, z1, z2]) rfl hE.out

set_option maxRecDepth 100000 in
set_option maxHeartbeats 4000000 in
theorem item_list (s : ByteArray) (R d e a m : Nat) (w : World) (hR : Has w R 100 (rdC s a m)) (ha1 : a ≤ 1099511627776) (hm1 : m ≤ 5000) (hs : s.size ≤ 1099511627776) (he : e ≤ s.size) (hm : m < 5000) (ha : a < e) (hd : 1 ≤ d) (hd2 : d ≤ 16) (IH : ItemOK s R (d - 1)) (hc0 : 192 ≤ byteAt s.data.toList a) :
    Calls Tryz.prog 56 #[.pointer (some ⟨R, 0, none⟩), .int .i64 (e : Int), .int .i64 ((16 - d : Nat) : Int)] w (ItP s R w (rdI s d e a m)) := by
  have hmx : Tryz.prog.follows .mixedOrders = true := by kernel_rfl
  have LS := Has.new w 29 #[.bool false, .string ⟨#[]⟩, .slice none 0 0]
  have LR := hR.alloc (.cells #[.bool false, .string ⟨#[]⟩, .slice none 0 0] 29)
  have Q := (Below.refl w.heap.size w).alloc (Nat.le_refl _) (.cells #[.bool false, .string ⟨#[]⟩, .slice none 0 0] 29)
  have hRlt := hR.lt
  have hs1 : (w.alloc (.cells #[.bool false, .string ⟨#[]⟩, .slice none 0 0] 29)).heap.size = w.heap.size + 1 := by simp
  obtain ⟨W1, hW1⟩ : ∃ W1, w.alloc (.cells #[.bool false, .string ⟨#[]⟩, .slice none 0 0] 29) = W1 := ⟨_, rfl⟩
  rw [hW1] at LS LR Q hs1
  obtain ⟨c, hc⟩ : ∃ c, byteAt s.data.toList a = c := ⟨_, rfl⟩
  have hclt : c < 256 := by rw [← hc]; exact byteAt_lt _ _
  obtain ⟨d', rfl⟩ : ∃ d', d = d' + 1 := ⟨d - 1, by omega⟩
  obtain ⟨r, hr⟩ : ∃ r, rdI s (d' + 1) e a m = r := ⟨_, rfl⟩
  rw [hr]
  have hr2 := hr
  rw [rdI_succ hm ha, if_neg (by omega)] at hr2
  have hcI2 : (192 : Int) ≤ (c : Int) := by omega
  have HB := begin_ok s a m e (16 - (d' + 1)) R W1 LR (by omega) (by omega) (by omega) hm ha
  have LR2 := LR.set 2 (.int .i64 ((m : Int) + 1))
  have LS2 := LS.other (p := ⟨R, 2, none⟩) (by simp; omega) (.int .i64 ((m : Int) + 1))
  have G2 := grown_set' (grown_of_below Q (some R)) 2 (.int .i64 ((m : Int) + 1))
  have hs2 : (W1.setCell ⟨R, 2, none⟩ (.int .i64 ((m : Int) + 1))).heap.size = w.heap.size + 1 := by simpa [World.setCell] using hs1
  have HC : ∀ X, Has X R 100 (rdC s a (m + 1)) → _ := fun X hX => show Calls Tryz.prog 75 #[.pointer (some ⟨R, 0, none⟩), .int .i64 (c : Int), .int .i64 (e : Int), .int .i64 ((16 - (d' + 1) : Nat) : Int)] X (ItP s R X r) from by have h := list_any' s R d' a (m + 1) e c X IH (by omega) hX hs he ha (by omega) (by omega) (by omega) hc; rw [hr2] at h; rw [show 16 - (d' + 1) = 15 - d' by omega]; exact h
  have hal : a < s.size := by omega
  have hbv : (((s[a]'hal).toNat : Nat) : Int) = (c : Int) := by rw [byte_idx' hal, hc]
  have haI0 : (0 : Int) ≤ (a : Int) := by omega
  have haI1 : (a : Int) < (s.size : Int) := by omega
  have hcI0 : (0 : Int) ≤ (c : Int) := by omega
  have hcI1 : (c : Int) < 256 := by omega
  have hta : ((a : Int)).toNat = a := by omega
  replace HB := Lib.hid HB
  replace HC := Lib.hid HC
  replace LS := Lib.hid LS
  replace LR := Lib.hid LR
  replace Q := Lib.hid Q
  clear hr hR hc hs1 ha1 hm1
  obtain ⟨dI, hdI⟩ : ∃ dI, ((16 - (d' + 1) : Nat) : Int) = dI := ⟨_, rfl⟩
  simp only [hdI] at HB HC ⊢
  clear hdI
  have hw1 := Lib.hid (And.intro hal (And.intro hRlt hRlt))
  go_enter Tryz.func56, Tryz.ntmps56
  go_wp2_with fail
  refine HB.out.mono ?_
  rintro _ W2 ⟨rfl, hW2⟩
  rw [hW2] at LR2 LS2 G2 hs2
  have LR3 : Has W2 R 100 (rdC s a (m + 1)) := by
    show Has W2 R _ #[.string s, .int .i64 (a : Int), .int .i64 ((m + 1 : Nat) : Int)]
    rw [Int.natCast_add]
    exact LR2
  have d0 : ∀ X : Ext W2, X.w.cell? ⟨R, 0, none⟩ = some (.string s) := fun X => LR3.ext X 0 _ rfl
  have d1 : ∀ X : Ext W2, X.w.cell? ⟨R, 1, none⟩ = some (.int .i64 (a : Int)) := fun X => LR3.ext X 1 _ rfl
  replace LR3 := Lib.hid LR3
  replace LS2 := Lib.hid LS2
  replace G2 := Lib.hid G2
  replace hs2 := Lib.hid hs2
  clear LR2 LS LR Q hW2 HB hW1
  go_wp2_with fail
  refine wp_region_quietL (C := Grows W2) hmx (by kernel_rfl) (grows_refl W2) ?_
  repeat (go_big_quiet_step (fail))
  refine wpQuiet_nil ?_
  rintro _ ⟨X, rfl⟩
  have HCX := Lib.hid (HC.out X.w (LR3.out.later X.below))
  have LS := Lib.hid (LS2.out.later X.below)
  have G := Lib.hid (grown_then_below G2.out X.below)
  have hXsz := Lib.hid (show w.heap.size < X.w.heap.size by have := X.below.size; have := hs2.out; omega)
  clear d0 d1 LR3 LS2 G2 HC hal hbv hta
  go_wp2_with fail
  refine HCX.out.mono ?_
  rintro e2 W5 hP
  cases r with
  | ok t a' m' =>
    obtain ⟨v, rfl, hv, hR2, hg2⟩ := hP
    obtain ⟨q, cap, rfl, _, _, _⟩ := hv.open
    have LS5 := LS.out.sr hg2 (by omega)
    have G5 := grown_trans G.out hg2
    have f0 := LS5.frozen 0
    have f1 := LS5.frozen 1
    have f2 := LS5.frozen 2
    have x0 := LS5.cell 0 _ rfl
    have x1 := LS5.cell 1 _ rfl
    have x2 := LS5.cell 2 _ rfl
    have hXs := hXsz.out
    have S := ((LS5.set 0 (.bool t.list)).set 1 (.string t.bytes)).set 2 (.slice q t.kids.length cap)
    have hE := Lib.hid (show ItP s R w (.ok t a' m') (.returned (.tuple #[.agg #[.bool t.list, .string t.bytes, .slice q t.kids.length cap], .nilIface])) (((W5.setCell ⟨w.heap.size, 0, none⟩ (.bool t.list)).setCell ⟨w.heap.size, 1, none⟩ (.string t.bytes)).setCell ⟨w.heap.size, 2, none⟩ (.slice q t.kids.length cap)) from
      ⟨_, rfl, hv.keep (fun b hb _ => (Below.heap_setCell _ _ _ b (by show b ≠ w.heap.size; omega)).trans ((Below.heap_setCell _ _ _ b (by show b ≠ w.heap.size; omega)).trans (Below.heap_setCell _ _ _ b (by show b ≠ w.heap.size; omega)))) (fun b hb _ => by omega),
        ((hR2.other (p := ⟨w.heap.size, 0, none⟩) (by simp; omega) _).other (p := ⟨w.heap.size, 1, none⟩) (by simp; omega) _).other (p := ⟨w.heap.size, 2, none⟩) (by simp; omega) _,
        grown_set (grown_set (grown_set G5 (p := ⟨w.heap.size, 0, none⟩) (.inr (Nat.le_refl _)) _) (p := ⟨w.heap.size, 1, none⟩) (.inr (Nat.le_refl _)) _) (p := ⟨w.heap.size, 2, none⟩) (.inr (Nat.le_refl _)) _⟩)
    have z0 := Lib.hid (S.cell 0 _ rfl)
    have z1 := Lib.hid (S.cell 1 _ rfl)
    have z2 := Lib.hid (S.cell 2 _ rfl)
    clear hv hR2 hg2 G5 S
    replace LS5 := Lib.hid LS5
    generalize t.list = tl at *
    generalize t.bytes = tb at *
    generalize t.kids.length = tn at *
    go_wp2_with fail
    replace z0 := z0.out
    replace z1 := z1.out
    replace z2 := z2.out
    exact bodyPost_ret (v := .tuple #[.agg #[.bool tl, .string tb, .slice q tn cap], .nilIface]) (by simp [results, Tryz.results56, go_sem, z0, z1, z2]) rfl hE.out
  | no x p =>
    obtain ⟨rfl, hg2⟩ := hP
    have LS5 := LS.out.sr hg2 (by omega)
    have G5 := grown_trans G.out hg2
    have f0 := LS5.frozen 0
    have f1 := LS5.frozen 1
    have f2 := LS5.frozen 2
    have x0 := LS5.cell 0 _ rfl
    have x1 := LS5.cell 1 _ rfl
    have x2 := LS5.cell 2 _ rfl
    have S := ((LS5.set 0 (.bool false)).set 1 (.string ⟨#[]⟩)).set 2 (.slice none 0 0)
    have hE := Lib.hid (show ItP s R w (.no x p) (.returned (.tuple #[.agg #[.bool false, .string ⟨#[]⟩, .slice none 0 0], fltV x p])) (((W5.setCell ⟨w.heap.size, 0, none⟩ (.bool false)).setCell ⟨w.heap.size, 1, none⟩ (.string ⟨#[]⟩)).setCell ⟨w.heap.size, 2, none⟩ (.slice none 0 0)) from
      ⟨rfl, grown_set (grown_set (grown_set G5 (p := ⟨w.heap.size, 0, none⟩) (.inr (Nat.le_refl _)) _) (p := ⟨w.heap.size, 1, none⟩) (.inr (Nat.le_refl _)) _) (p := ⟨w.heap.size, 2, none⟩) (.inr (Nat.le_refl _)) _⟩)
    have z0 := Lib.hid (S.cell 0 _ rfl)
    have z1 := Lib.hid (S.cell 1 _ rfl)
    have z2 := Lib.hid (S.cell 2 _ rfl)
    clear hg2 G5 S
    replace LS5 := Lib.hid LS5
    go_wp2_with fail
    replace z0 := z0.out
    replace z1 := z1.out
    replace z2 := z2.out
    exact bodyPost_ret (v := .tuple #[.agg #[.bool false, .string ⟨#[]⟩, .slice none 0 0], fltV x p]) (by simp [results, Tryz.results56, go_sem, z0, z1, z2]) rfl hE.out

theorem item_ok (s : ByteArray) (R : Nat) (hs : s.size ≤ 1099511627776) : ∀ d, d ≤ 16 → ItemOK s R d := by
  intro d
  induction d with
  | zero =>
    intro _ e a m w hR he ha hm
    exact item_deep s R 0 e a m w hR ha hm rfl
  | succ d ih =>
    intro hd e a m w hR he ha hm
    by_cases h1 : 5000 ≤ m
    · exact item_many s R (d + 1) e a m w hR ha hm (by omega) h1
    by_cases h2 : e ≤ a
    · exact item_short s R (d + 1) e a m w hR ha hm (by omega) (by omega) h2
    by_cases h3 : byteAt s.data.toList a < 192
    · exact item_text s R (d + 1) e a m w hR ha hm hs he (by omega) (by omega) (by omega) hd h3
    · exact item_list s R (d + 1) e a m w hR ha hm hs he (by omega) (by omega) (by omega) hd (ih (by omega)) (by omega)
end Go.Proofs.YtbbpmcebakckaaaGreatDoor
