import Derived.Test.YtbbpmcebakckaaaGreatDoorVRfC
import Derived.Test.YtbbpmcebakckaaaGreatDoorU18
/- The document's own Decode. Conditions: none but a text's size. -/
namespace Go.Proofs.YtbbpmcebakckaaaGreatDoor
open Go Go.RowKit Late
attribute [local go_sem] Oper.semAt_some Grows wide_fn

set_option maxRecDepth 100000 in
set_option maxHeartbeats 8000000 in
theorem refDecode_any (s : ByteArray) (hs : s.size ≤ 1099511627776) (w : World) : Calls Tryz.prog 22 #[.string s] w (DecP w (decR s)) := by
  have hmx : Tryz.prog.follows .mixedOrders = true := by kernel_rfl
  have LS := Has.new w 29 #[.bool false, .string ⟨#[]⟩, .slice none 0 0]
  have Q := (Below.refl w.heap.size w).alloc (Nat.le_refl _) (.cells #[.bool false, .string ⟨#[]⟩, .slice none 0 0] 29)
  have x0 := LS.cell 0 _ rfl
  have x1 := LS.cell 1 _ rfl
  have x2 := LS.cell 2 _ rfl
  have f0 := LS.frozen 0
  have f1 := LS.frozen 1
  have f2 := LS.frozen 2
  have hsI : (s.size : Int) ≤ 1099511627776 := by omega
  have hsI0 : (0 : Int) ≤ (s.size : Int) := by omega
  unfold decR
  by_cases hbig : 1048576 < s.size
  · rw [if_pos hbig]
    have hbI : 1048576 < (s.size : Int) := by omega
    have HQ := Lib.hid Q
    have S := Lib.hid LS
    replace LS := Lib.hid LS
    clear hbig hs Q
    go_enter Tryz.func22, Tryz.ntmps22
    go_wp2_with fail
    have z0 := S.out.cell 0 _ rfl
    have z1 := S.out.cell 1 _ rfl
    have z2 := S.out.cell 2 _ rfl
    exact bodyPost_ret (v := .tuple #[.agg #[.bool false, .string ⟨#[]⟩, .slice none 0 0], .int .i64 2, .int .i64 0]) (by simp [results, Tryz.results22, go_sem, z0, z1, z2]) rfl ⟨rfl, HQ.out⟩
  · rw [if_neg hbig]
    have hbI : ¬ 1048576 < (s.size : Int) := by omega
    have LR := Has.new (w.alloc (.cells #[.bool false, .string ⟨#[]⟩, .slice none 0 0] 29)) 74 #[.string s, .int .i64 0, .int .i64 0, .int .i64 0]
    simp only [World.size_alloc] at LR
    have LS1 := LS.alloc (.cells #[.string s, .int .i64 0, .int .i64 0, .int .i64 0] 74)
    have Q1 := Q.alloc (by simp) (.cells #[.string s, .int .i64 0, .int .i64 0, .int .i64 0] 74)
    have hsz1 : ((w.alloc (.cells #[.bool false, .string ⟨#[]⟩, .slice none 0 0] 29)).alloc (.cells #[.string s, .int .i64 0, .int .i64 0, .int .i64 0] 74)).heap.size = w.heap.size + 2 := by simp
    obtain ⟨W1, hW1⟩ : ∃ W1, (w.alloc (.cells #[.bool false, .string ⟨#[]⟩, .slice none 0 0] 29)).alloc (.cells #[.string s, .int .i64 0, .int .i64 0, .int .i64 0] 74) = W1 := ⟨_, rfl⟩
    rw [hW1] at LR LS1 Q1 hsz1
    have HI := Lib.hid (show Calls Tryz.prog 41 #[.pointer (some ⟨w.heap.size + 1, 0, none⟩), .int .i64 (s.size : Int), .int .i64 0] W1 (RdP s (w.heap.size + 1) W1 (rdI s 16 s.size 0 0)) from rf_any s (w.heap.size + 1) hs 16 (Nat.le_refl _) s.size 0 0 W1 LR (Nat.le_refl _) (by omega) (by omega))
    have hrd := fun t a m (h : rdI s 16 s.size 0 0 = .ok t a m) => rdItem_ok 5000 s.data.toList 16 s.size 0 0 t a m (by rw [← size_list]; exact Nat.le_refl _) h
    have HRD := Lib.hid hrd
    obtain ⟨rs, hrs⟩ : ∃ rs, rdTop s = rs := ⟨_, rfl⟩
    rw [hrs]
    have HRS := Lib.hid (show topR s.size (rdI s 16 s.size 0 0) = rs from hrs)
    clear hrs hrd
    generalize hr0 : rdI s 16 s.size 0 0 = r0 at HI HRS HRD
    have HS := Lib.hid hs
    have LS2 := Lib.hid LS1
    have Q2 := Lib.hid Q1
    have SZ := Lib.hid hsz1
    replace LS := Lib.hid LS
    replace Q := Lib.hid Q
    replace LR := Lib.hid LR
    clear hbig hs hr0 LS1 Q1 hsz1 x0 x1 x2 f0 f1 f2
    go_enter Tryz.func22, Tryz.ntmps22
    go_wp2_with fail
    refine HI.out.mono ?_
    rintro _ y ⟨v, rfl, hq, hg⟩
    have LSy := Lib.hid (LS2.out.sr hg (by omega))
    have QY := Lib.hid (show Below w.heap.size w y from ⟨hg.os.trans Q2.out.os, hg.tape.trans Q2.out.tape, hg.output.trans Q2.out.output, Nat.le_trans Q2.out.size hg.size, fun k hk => (hg.block k (by have := SZ.out; omega) (fun e => by injection e with e; omega)).trans (Q2.out.block k hk)⟩)
    have HQ := Lib.hid hq
    clear hq hg hW1 HI LS2 Q2
    have hsh : ∃ (b0 : Bool) (s0 : ByteArray) (ka : Option Addr) (kn kc : Nat), v = .agg #[.bool b0, .string s0, .slice ka kn kc] := by
      have hq := HQ.out
      cases r0 with
      | ok t a m =>
        obtain ⟨a, cap, hv, _⟩ := hq.1.open
        subst hv
        exact ⟨_, _, _, _, _, rfl⟩
      | no x p => exact hq.1
    obtain ⟨b0, s0, ka, kn, kc, rfl⟩ := hsh
    have BX := Has.new y 29 #[.bool b0, .string s0, .slice ka kn kc]
    have hbx := (Below.refl y.heap.size y).alloc (Nat.le_refl _) (.cells #[.bool b0, .string s0, .slice ka kn kc] 29)
    have HBZ := Has.new y 29 #[.bool false, .string ⟨#[]⟩, .slice none 0 0]
    have n0 := HBZ.cell 0 _ rfl
    have n1 := HBZ.cell 1 _ rfl
    have n2 := HBZ.cell 2 _ rfl
    have g0 := HBZ.frozen 0
    have g1 := HBZ.frozen 1
    have g2 := HBZ.frozen 2
    have LS5 := Lib.hid (LSy.out.later hbx)
    have Q5 := Lib.hid (QY.out.trans (hbx.mono QY.out.size))
    rcases r0 with ⟨t, a, m⟩ | ⟨x, p⟩
    · have hqx := HQ.out
      have hst := hqx.2
      have HIT := Lib.hid hqx.1
      have HG := Lib.hid (HRD.out t a m rfl)
      obtain ⟨W5, hW5⟩ : ∃ W5, y.alloc (.cells #[.bool b0, .string s0, .slice ka kn kc] 29) = W5 := ⟨_, rfl⟩
      rw [hW5] at BX hbx LS5 Q5
      have BXQ := Lib.hid BX
      have ST := Lib.hid (hst.later hbx)
      have HBL := Lib.hid hbx
      clear hbx HBZ
      have haI0 : (0 : Int) ≤ (a : Int) := by omega
      have haI1 : (a : Int) ≤ 1099511627776 := by have := HG.out.2.1; have := HS.out; omega
      have k3 : W5.cell? ⟨w.heap.size + 1, 3, none⟩ = some (.int .i64 0) := ST.out.cell 3 _ rfl
      have k1 : W5.cell? ⟨w.heap.size + 1, 1, none⟩ = some (.int .i64 (a : Int)) := ST.out.cell 1 _ rfl
      clear hqx hst
      by_cases hmore : a < s.size
      · have hmI : (a : Int) < (s.size : Int) := by omega
        have HRE := Lib.hid (show rs = .no 12 a from by rw [← HRS.out]; show (if a < s.size then Rd.no 12 a else _) = _; rw [if_pos hmore])
        have HF := Lib.hid (show Calls Tryz.prog 42 #[.pointer (some ⟨w.heap.size + 1, 0, none⟩), .int .i64 12, .int .i64 (a : Int)] W5 _ from fail_first s (w.heap.size + 1) a m 12 a W5 ST.out)
        clear hmore
        go_wp2_with fail
        refine HF.out.mono ?_
        rintro _ W6 ⟨rfl, hy, hg⟩
        have STF := Lib.hid hy
        have LSF := Lib.hid (LS5.out.sr hg (by omega))
        have QF := Lib.hid (show Below w.heap.size w W6 from ⟨hg.os.trans Q5.out.os, hg.tape.trans Q5.out.tape, hg.output.trans Q5.out.output, Nat.le_trans Q5.out.size hg.size, fun k hk => (hg.block k (Nat.lt_of_lt_of_le hk Q5.out.size) (fun e => by injection e with e; omega)).trans (Q5.out.block k hk)⟩)
        have d3 : W6.cell? ⟨w.heap.size + 1, 3, none⟩ = some (.int .i64 12) := hy.cell 3 _ rfl
        clear hy hg HF k3 k1 n0 n1 n2 g0 g1 g2 hW5
        go_wp2_with fail
        refine Late.wp_region_ghost [some (.agg #[.bool false, .string ⟨#[]⟩, .slice none 0 0]), some (.pointer (some ⟨w.heap.size + 1, 0, none⟩)), some (.pointer (some ⟨w.heap.size + 1, 0, none⟩)), some (.pointer (some ⟨w.heap.size + 1, 3, none⟩)), some (.int .i64 12), some (.pointer (some ⟨w.heap.size + 1, 0, none⟩)), some (.pointer (some ⟨w.heap.size + 1, 0, none⟩)), some (.pointer (some ⟨w.heap.size + 1, 1, none⟩)), some (.int .i64 (a : Int)), some (undef), some (.int .i64 12), some (.int .i64 (a : Int))] [[], [], [1], [1, 2], [1, 2, 3], [], [5], [5, 6], [5, 6, 7], [0], [0, 1, 2, 3, 4, 9], [0, 1, 2, 3, 4, 5, 6, 7, 8, 9, 10]] (fun _ _ y => Below W6.heap.size W6 y) (by kernel_rfl) (by kernel_rfl) (by kernel_rfl) (fun f g wa wb h hb => h.trans (hb.mono h.size)) (fun f f' g g' wa h hh => hh) (Below.refl _ _).drew ?_
        rintro f g yy hU Dn
        have HU := Lib.hid hU
        clear hU
        refine GW.known _ rfl (fun hd hf => ?_) ?_
        · go_wp2
          exact ⟨rfl, rfl, Below.refl _ _⟩
        simp only [Act.put, List.setIfInBounds_toArray, List.set_cons_succ, List.set_cons_zero]
        refine GW.known _ rfl (fun hd hf => ?_) ?_
        · go_wp2
          exact ⟨rfl, rfl, Below.refl _ _⟩
        simp only [Act.put, List.setIfInBounds_toArray, List.set_cons_succ, List.set_cons_zero]
        refine GW.known _ rfl (fun hd hf => ?_) ?_
        · go_wp2
          exact ⟨rfl, rfl, Below.refl _ _⟩
        simp only [Act.put, List.setIfInBounds_toArray, List.set_cons_succ, List.set_cons_zero]
        refine GW.known _ rfl (fun hd hf => ?_) ?_
        · go_wp2
          exact ⟨rfl, rfl, Below.refl _ _⟩
        simp only [Act.put, List.setIfInBounds_toArray, List.set_cons_succ, List.set_cons_zero]
        refine GW.known _ rfl (fun hd hf => ?_) ?_
        · have q3 := (STF.out.later HU.out).cell 3 _ rfl
          go_wp2
          exact ⟨rfl, rfl, Below.refl _ _⟩
        simp only [Act.put, List.setIfInBounds_toArray, List.set_cons_succ, List.set_cons_zero]
        refine GW.known _ rfl (fun hd hf => ?_) ?_
        · go_wp2
          exact ⟨rfl, rfl, Below.refl _ _⟩
        simp only [Act.put, List.setIfInBounds_toArray, List.set_cons_succ, List.set_cons_zero]
        refine GW.known _ rfl (fun hd hf => ?_) ?_
        · go_wp2
          exact ⟨rfl, rfl, Below.refl _ _⟩
        simp only [Act.put, List.setIfInBounds_toArray, List.set_cons_succ, List.set_cons_zero]
        refine GW.known _ rfl (fun hd hf => ?_) ?_
        · go_wp2
          exact ⟨rfl, rfl, Below.refl _ _⟩
        simp only [Act.put, List.setIfInBounds_toArray, List.set_cons_succ, List.set_cons_zero]
        refine GW.known _ rfl (fun hd hf => ?_) ?_
        · have q1 := (STF.out.later HU.out).cell 1 _ rfl
          go_wp2
          exact ⟨rfl, rfl, Below.refl _ _⟩
        simp only [Act.put, List.setIfInBounds_toArray, List.set_cons_succ, List.set_cons_zero]
        refine GW.known _ rfl (fun hd hf => ?_) ?_
        · have hz := LSF.out.later HU.out
          have q0 : yy.cell? ⟨w.heap.size, 0, none⟩ = some (.bool false) := hz.cell 0 _ rfl
          have q1 : yy.cell? ⟨w.heap.size, 1, none⟩ = some (.string ⟨#[]⟩) := hz.cell 1 _ rfl
          have q2 : yy.cell? ⟨w.heap.size, 2, none⟩ = some (.slice none 0 0) := hz.cell 2 _ rfl
          have s0 := setCell_there q0
          have s1 := setCell_there q1
          have s2 := setCell_there q2
          have j0 := hz.frozen 0
          have j1 := hz.frozen 1
          have j2 := hz.frozen 2
          clear hz
          go_wp2
          exact ⟨rfl, rfl, Below.refl _ _⟩
        simp only [Act.put, List.setIfInBounds_toArray, List.set_cons_succ, List.set_cons_zero]
        refine GW.known _ rfl (fun hd hf => ?_) ?_
        · go_wp2
          exact ⟨rfl, rfl, Below.refl _ _⟩
        simp only [Act.put, List.setIfInBounds_toArray, List.set_cons_succ, List.set_cons_zero]
        refine GW.known _ rfl (fun hd hf => ?_) ?_
        · go_wp2
          exact ⟨rfl, rfl, Below.refl _ _⟩
        simp only [Act.put, List.setIfInBounds_toArray, List.set_cons_succ, List.set_cons_zero]
        refine GW.nil (fun hall => ?_)
        have hz := LSF.out.later HU.out
        have QE := Lib.hid (QF.out.trans (HU.out.mono QF.out.size))
        have z0 := hz.cell 0 _ rfl
        have z1 := hz.cell 1 _ rfl
        have z2 := hz.cell 2 _ rfl
        clear Dn hall hz
        go_wp2_with fail
        refine bodyPost_ret (v := .tuple #[.agg #[.bool false, .string ⟨#[]⟩, .slice none 0 0], .int .i64 12, .int .i64 (a : Int)]) (by simp [results, Tryz.results22, go_sem, z0, z1, z2]) rfl ?_
        rw [HRE.out]
        exact ⟨rfl, QE.out⟩
      · have hmI : ¬ (a : Int) < (s.size : Int) := by omega
        have HRE := Lib.hid (show rs = .ok t a m from by rw [← HRS.out]; show (if a < s.size then _ else Rd.ok t a m) = _; rw [if_neg hmore])
        have x0 := LS5.out.cell 0 _ rfl
        have x1 := LS5.out.cell 1 _ rfl
        have x2 := LS5.out.cell 2 _ rfl
        have f0 := LS5.out.frozen 0
        have f1 := LS5.out.frozen 1
        have f2 := LS5.out.frozen 2
        have p0 := BXQ.out.cell 0 _ rfl
        have p1 := BXQ.out.cell 1 _ rfl
        have p2 := BXQ.out.cell 2 _ rfl
        have S := Lib.hid (((LS5.out.set 0 (.bool b0)).set 1 (.string s0)).set 2 (.slice ka kn kc))
        have QE := Lib.hid (((Q5.out.setCell (p := ⟨w.heap.size, 0, none⟩) (Nat.le_refl _) (.bool b0)).setCell (p := ⟨w.heap.size, 1, none⟩) (Nat.le_refl _) (.string s0)).setCell (p := ⟨w.heap.size, 2, none⟩) (Nat.le_refl _) (.slice ka kn kc))
        have HIX := Lib.hid (HIT.out.keep (X := ((W5.setCell ⟨w.heap.size, 0, none⟩ (.bool b0)).setCell ⟨w.heap.size, 1, none⟩ (.string s0)).setCell ⟨w.heap.size, 2, none⟩ (.slice ka kn kc)) (T := fun b => w.heap.size ≤ b) (fun b hb hl => by
          have hne : b ≠ w.heap.size := by have := SZ.out; omega
          rw [Below.heap_setCell _ ⟨w.heap.size, 2, none⟩ _ b hne, Below.heap_setCell _ ⟨w.heap.size, 1, none⟩ _ b hne, Below.heap_setCell _ ⟨w.heap.size, 0, none⟩ _ b hne]
          exact HBL.out.block b hl) (fun b hb _ => by have := SZ.out; omega))
        clear hmore BX
        go_wp2_with fail
        have z0 := S.out.cell 0 _ rfl
        have z1 := S.out.cell 1 _ rfl
        have z2 := S.out.cell 2 _ rfl
        refine bodyPost_ret (v := .tuple #[.agg #[.bool b0, .string s0, .slice ka kn kc], .int .i64 0, .int .i64 0]) (by simp [results, Tryz.results22, go_sem, z0, z1, z2]) rfl ?_
        rw [HRE.out]
        exact ⟨_, rfl, HIX.out, QE.out⟩
    · have hqx := HQ.out
      have hx0 := hqx.2.1
      obtain ⟨m', hst⟩ := hqx.2.2
      have HX0 := Lib.hid hx0
      obtain ⟨W5, hW5⟩ : ∃ W5, y.alloc (.cells #[.bool b0, .string s0, .slice ka kn kc] 29) = W5 := ⟨_, rfl⟩
      rw [hW5] at BX hbx LS5 Q5
      have BXQ := Lib.hid BX
      have ST := Lib.hid (hst.later hbx)
      clear hbx HBZ
      have hxI : ((x : Int) == 0) = false := by rw [beq_eq_false_iff_ne]; omega
      have k3 : W5.cell? ⟨w.heap.size + 1, 3, none⟩ = some (.int .i64 (x : Int)) := ST.out.cell 3 _ rfl
      have HRE := Lib.hid (show rs = .no x p from by rw [← HRS.out]; rfl)
      clear hqx hx0 hst BX
      go_wp2_with fail
      clear k3 n0 n1 n2 g0 g1 g2 hW5
      have STF := ST
      have LSF := LS5
      have QF := Q5
      refine Late.wp_region_ghost [some (.agg #[.bool false, .string ⟨#[]⟩, .slice none 0 0]), some (.pointer (some ⟨w.heap.size + 1, 0, none⟩)), some (.pointer (some ⟨w.heap.size + 1, 0, none⟩)), some (.pointer (some ⟨w.heap.size + 1, 3, none⟩)), some (.int .i64 (x : Int)), some (.pointer (some ⟨w.heap.size + 1, 0, none⟩)), some (.pointer (some ⟨w.heap.size + 1, 0, none⟩)), some (.pointer (some ⟨w.heap.size + 1, 1, none⟩)), some (.int .i64 (p : Int)), some (undef), some (.int .i64 (x : Int)), some (.int .i64 (p : Int))] [[], [], [1], [1, 2], [1, 2, 3], [], [5], [5, 6], [5, 6, 7], [0], [0, 1, 2, 3, 4, 9], [0, 1, 2, 3, 4, 5, 6, 7, 8, 9, 10]] (fun _ _ y => Below W5.heap.size W5 y) (by kernel_rfl) (by kernel_rfl) (by kernel_rfl) (fun f g wa wb h hb => h.trans (hb.mono h.size)) (fun f f' g g' wa h hh => hh) (Below.refl _ _).drew ?_
      rintro f g yy hU Dn
      have HU := Lib.hid hU
      clear hU
      refine GW.known _ rfl (fun hd hf => ?_) ?_
      · go_wp2
        exact ⟨rfl, rfl, Below.refl _ _⟩
      simp only [Act.put, List.setIfInBounds_toArray, List.set_cons_succ, List.set_cons_zero]
      refine GW.known _ rfl (fun hd hf => ?_) ?_
      · go_wp2
        exact ⟨rfl, rfl, Below.refl _ _⟩
      simp only [Act.put, List.setIfInBounds_toArray, List.set_cons_succ, List.set_cons_zero]
      refine GW.known _ rfl (fun hd hf => ?_) ?_
      · go_wp2
        exact ⟨rfl, rfl, Below.refl _ _⟩
      simp only [Act.put, List.setIfInBounds_toArray, List.set_cons_succ, List.set_cons_zero]
      refine GW.known _ rfl (fun hd hf => ?_) ?_
      · go_wp2
        exact ⟨rfl, rfl, Below.refl _ _⟩
      simp only [Act.put, List.setIfInBounds_toArray, List.set_cons_succ, List.set_cons_zero]
      refine GW.known _ rfl (fun hd hf => ?_) ?_
      · have q3 := (STF.out.later HU.out).cell 3 _ rfl
        go_wp2
        exact ⟨rfl, rfl, Below.refl _ _⟩
      simp only [Act.put, List.setIfInBounds_toArray, List.set_cons_succ, List.set_cons_zero]
      refine GW.known _ rfl (fun hd hf => ?_) ?_
      · go_wp2
        exact ⟨rfl, rfl, Below.refl _ _⟩
      simp only [Act.put, List.setIfInBounds_toArray, List.set_cons_succ, List.set_cons_zero]
      refine GW.known _ rfl (fun hd hf => ?_) ?_
      · go_wp2
        exact ⟨rfl, rfl, Below.refl _ _⟩
      simp only [Act.put, List.setIfInBounds_toArray, List.set_cons_succ, List.set_cons_zero]
      refine GW.known _ rfl (fun hd hf => ?_) ?_
      · go_wp2
        exact ⟨rfl, rfl, Below.refl _ _⟩
      simp only [Act.put, List.setIfInBounds_toArray, List.set_cons_succ, List.set_cons_zero]
      refine GW.known _ rfl (fun hd hf => ?_) ?_
      · have q1 := (STF.out.later HU.out).cell 1 _ rfl
        go_wp2
        exact ⟨rfl, rfl, Below.refl _ _⟩
      simp only [Act.put, List.setIfInBounds_toArray, List.set_cons_succ, List.set_cons_zero]
      refine GW.known _ rfl (fun hd hf => ?_) ?_
      · have hz := LSF.out.later HU.out
        have q0 : yy.cell? ⟨w.heap.size, 0, none⟩ = some (.bool false) := hz.cell 0 _ rfl
        have q1 : yy.cell? ⟨w.heap.size, 1, none⟩ = some (.string ⟨#[]⟩) := hz.cell 1 _ rfl
        have q2 : yy.cell? ⟨w.heap.size, 2, none⟩ = some (.slice none 0 0) := hz.cell 2 _ rfl
        have s0 := setCell_there q0
        have s1 := setCell_there q1
        have s2 := setCell_there q2
        have j0 := hz.frozen 0
        have j1 := hz.frozen 1
        have j2 := hz.frozen 2
        clear hz
        go_wp2
        exact ⟨rfl, rfl, Below.refl _ _⟩
      simp only [Act.put, List.setIfInBounds_toArray, List.set_cons_succ, List.set_cons_zero]
      refine GW.known _ rfl (fun hd hf => ?_) ?_
      · go_wp2
        exact ⟨rfl, rfl, Below.refl _ _⟩
      simp only [Act.put, List.setIfInBounds_toArray, List.set_cons_succ, List.set_cons_zero]
      refine GW.known _ rfl (fun hd hf => ?_) ?_
      · go_wp2
        exact ⟨rfl, rfl, Below.refl _ _⟩
      simp only [Act.put, List.setIfInBounds_toArray, List.set_cons_succ, List.set_cons_zero]
      refine GW.nil (fun hall => ?_)
      have hz := LSF.out.later HU.out
      have QE := Lib.hid (QF.out.trans (HU.out.mono QF.out.size))
      have z0 := hz.cell 0 _ rfl
      have z1 := hz.cell 1 _ rfl
      have z2 := hz.cell 2 _ rfl
      clear Dn hall hz
      go_wp2_with fail
      refine bodyPost_ret (v := .tuple #[.agg #[.bool false, .string ⟨#[]⟩, .slice none 0 0], .int .i64 (x : Int), .int .i64 (p : Int)]) (by simp [results, Tryz.results22, go_sem, z0, z1, z2]) rfl ?_
      rw [HRE.out]
      exact ⟨rfl, QE.out⟩
end Go.Proofs.YtbbpmcebakckaaaGreatDoor
