/- The reference's moved bits. -/
import Derived.Test.YtnlcllhjhbaigaaDoorRefT
namespace Go.Proofs.YtnlcllhjhbaigaaDoor
open Go Go.RowKit
attribute [local go_sem] Oper.semAt_some Grows

/-- The first k bits of a number, as cells. -/
def rowI (R k : Nat) : List Value := (List.range k).map fun j => Value.int .i64 (bt R j : Int)
theorem rowI_succ (R k : Nat) : rowI R (k + 1) = rowI R k ++ [.int .i64 (bt R k : Int)] := by simp [rowI, List.range_succ]
theorem row_form3 {w : World} {base : Nat} {e : TypeId} {size : Nat} {v : Value} {n : Nat} {xs : List Value} (h : w.ownsRow base e size v n xs) : ∃ o cap, v = .slice o n cap := by
  rcases h.2 with ⟨rfl, rfl⟩ | ⟨g, cap, cur, rfl, _⟩
  · exact ⟨none, 0, rfl⟩
  · exact ⟨_, _, rfl⟩
theorem rowI_nil (R : Nat) : rowI R 0 = [] := rfl


set_option maxRecDepth 100000 in
set_option maxHeartbeats 4000000 in
theorem refMoved_ret (a R : Nat) (m s : Int) (hR : W256 R) (hm : -256 ≤ m ∧ m ≤ 256) (hin : ∀ k j : Nat, k < 256 → j < 256 → (k : Int) - m = (j : Int) → bt R k = bt a j) (hout : ∀ k : Nat, k < 256 → ((k : Int) - m < 0 ∨ 256 ≤ (k : Int) - m) → (bt R k : Int) = s) :
    Ret Tryd.prog 44 #[wv a, .int .i64 m, .int .i64 s] (wv R) := by
  intro w
  obtain ⟨hm0, hm1⟩ := hm
  have HA := Lib.hid (bits_any a)
  have HF := Lib.hid (fromBits_any R hR)
  have HI := Lib.hid hin
  have HO := Lib.hid hout
  clear hR hin hout
  unfold wv at HA HF ⊢
  go_enter Tryd.func44, Tryd.ntmps44
  have LX := Has.new w 24 #[.int .u64 (lim a 0), .int .u64 (lim a 1), .int .u64 (lim a 2), .int .u64 (lim a 3)]
  have k1 := LX.cell 0 _ rfl
  have k2 := LX.cell 1 _ rfl
  have k3 := LX.cell 2 _ rfl
  have k4 := LX.cell 3 _ rfl
  have LX := LX.alloc (.cells #[.int .u64 0, .int .u64 0, .int .u64 0, .int .u64 0] 24)
  have LR := Has.new (w.alloc (.cells #[.int .u64 (lim a 0), .int .u64 (lim a 1), .int .u64 (lim a 2), .int .u64 (lim a 3)] 24)) 24 #[.int .u64 0, .int .u64 0, .int .u64 0, .int .u64 0]
  simp only [World.size_alloc] at LR
  have k5 := LX.cell 0 _ rfl
  have k6 := LX.cell 1 _ rfl
  have k7 := LX.cell 2 _ rfl
  have k8 := LX.cell 3 _ rfl
  have k9 := LR.cell 0 _ rfl
  have k10 := LR.cell 1 _ rfl
  have k11 := LR.cell 2 _ rfl
  have k12 := LR.cell 3 _ rfl
  have Q := (Below.refl w.heap.size w)
  have Q := Q.alloc Q.size (.cells #[.int .u64 (lim a 0), .int .u64 (lim a 1), .int .u64 (lim a 2), .int .u64 (lim a 3)] 24)
  have Q := Q.alloc Q.size (.cells #[.int .u64 0, .int .u64 0, .int .u64 0, .int .u64 0] 24)
  go_wp2_with fail
  clear k1 k2 k3 k4 k5 k6 k7 k8 k9 k10 k11 k12
  obtain ⟨W1, hW1⟩ : ∃ W1, ((w.alloc (.cells #[.int .u64 (lim a 0), .int .u64 (lim a 1), .int .u64 (lim a 2), .int .u64 (lim a 3)] 24)).alloc (.cells #[.int .u64 0, .int .u64 0, .int .u64 0, .int .u64 0] 24)) = W1 := ⟨_, rfl⟩
  rw [hW1] at LX LR Q ⊢
  clear hW1
  refine (HA.out _).mono ?_
  rintro e v13 ⟨g, cap, rfl, hg, hI, q⟩
  have LX := LX.later q
  have LR := LR.later q
  have Q := Q.trans (q.mono Q.size)
  clear q
  clear LX
  clear HA hg
  have aI := hI.lt
  have aR := LR.lt
  have aW := Q.size
  have RN := World.ownsRow_nil v13 v13.heap.size 3 1
  have hbs : v13.heap.size ≤ v13.heap.size := Nat.le_refl _
  rw [← rowI_nil R] at RN
  go_wp2
  generalize hbase : v13.heap.size = base at aI aR aW RN hbs
  go_loopw [8, 9] (fun t i wr => ∃ k : Nat, i = .int .i64 (k : Int) ∧ k ≤ 256 ∧ wr.ownsRow base 3 1 t k (rowI R k) ∧ IntsAt wr g 256 (fun j => (bt a j : Int)) ∧ Has wr (w.heap.size + 1) 24 #[.int .u64 0, .int .u64 0, .int .u64 0, .int .u64 0] ∧ Below w.heap.size w wr ∧ base ≤ wr.heap.size) (fun _ i _ => 256 - (intOf i).toNat)
  case atStart => exact ⟨0, rfl, by omega, RN, hI, LR, Q, by omega⟩
  case round =>
    clear hI LR Q RN hbs hbase
    obtain ⟨k, rfl, hk, hown, hI, LR, Q, hbs⟩ := hrel
    obtain ⟨o, cap2, rfl⟩ := row_form3 hown
    by_cases hlt : k < 256
    · have hk0 : (0 : Int) ≤ (k : Int) := by omega
      have hk1 : (k : Int) < 256 := by omega
      have HK := Lib.hid hlt
      have HRow := Lib.hid hown
      have HX := Lib.hid hI
      have HLR := Lib.hid LR
      have HQ := Lib.hid Q
      have HZ := Lib.hid hbs
      have HG := Lib.hid (And.intro aI (And.intro aR aW))
      obtain ⟨i0, hi, hz0, hz1, hz2⟩ := info_parts infoI
      clear hk hown hI LR Q hbs aI aR aW HF
      have hc : (∃ j : Nat, (k : Int) - m = (j : Int) ∧ j < 256) ∨ (k : Int) - m < 0 ∨ 256 ≤ (k : Int) - m := by
        rcases Int.lt_or_le ((k : Int) - m) 0 with h | h
        · exact .inr (.inl h)
        · rcases Int.lt_or_le ((k : Int) - m) 256 with h2 | h2
          · exact .inl ⟨((k : Int) - m).toNat, by omega, by omega⟩
          · exact .inr (.inr h2)
      rcases hc with ⟨j, hj, hj2⟩ | hc | hc
      · have HV := Lib.hid (HI.out k j hlt hj2 hj)
        have cI : wr.cell? ⟨g, j, none⟩ = some (.int .i64 (bt a j : Int)) := HX.out.cell hj2
        have hj0 : (0 : Int) ≤ (j : Int) := by omega
        have hj1 : (j : Int) < 256 := by omega
        clear HI HO hlt hj2
        go_wp2_with (at_builtin; refine wpList_append_own _ rfl _ _ 44 rfl base 3 i0 (.int .i64 0) 1 8 Tryd.underlying44 hi hz0 hz1 hz2 rfl (by decide) _ _ _ rfl (HRow.out.alloc _) ⟨wr.heap.size, 0, none⟩ 1 1 [.int .i64 (bt a j : Int)] rfl rfl (cell_one _ _ _) (by simp [Value.oneCell']) (by unfold maxLen; have := HK.out; omega) (by have := HK.out; omega) (by have := HZ.out; simp; omega) ?_; intro v' w3 hown' hgrow hnil)
        clear hi hz0 hz1 hz2
        go_wp2
        go_roundw
        case rel =>
          have hxs3 := hgrow.size
          have hzz := HZ.out
          obtain ⟨aI, aR, aW⟩ := HG.out
          have hne := fun (r : Nat) e => ((HRow.out.alloc (.cells #[.int .i64 (bt a j : Int)] 3)).lt r e).1
          refine ⟨k + 1, by simp, by have := HK.out; omega, ?_, ?_, ?_, ?_, by simp at hxs3; omega⟩
          · rw [rowI_succ, HV.out]; exact hown'
          · exact (HX.out.alloc _).kept hgrow (fun e => by have := hne _ e.symm; omega)
          · exact (hgrow.block _ (by have := HLR.out.lt; simp; omega) (fun e => by have := hne _ e.symm; omega)).trans (HLR.out.alloc _)
          · exact (HQ.out.alloc HQ.out.size _).grown hgrow (by simp; omega) (fun j e => by have := hne j e; omega)
        case measure => have := HK.out; first | (simp [intOf]; done) | (simp [intOf]; omega)
      · have HV := Lib.hid (HO.out k hlt (.inl hc))
        clear HI HO hlt
        go_wp2_with (at_builtin; refine wpList_append_own _ rfl _ _ 44 rfl base 3 i0 (.int .i64 0) 1 8 Tryd.underlying44 hi hz0 hz1 hz2 rfl (by decide) _ _ _ rfl (HRow.out.alloc _) ⟨wr.heap.size, 0, none⟩ 1 1 [.int .i64 s] rfl rfl (cell_one _ _ _) (by simp [Value.oneCell']) (by unfold maxLen; have := HK.out; omega) (by have := HK.out; omega) (by have := HZ.out; simp; omega) ?_; intro v' w3 hown' hgrow hnil)
        clear hi hz0 hz1 hz2
        go_wp2
        go_roundw
        case rel =>
          have hxs3 := hgrow.size
          have hzz := HZ.out
          obtain ⟨aI, aR, aW⟩ := HG.out
          have hne := fun (r : Nat) e => ((HRow.out.alloc (.cells #[.int .i64 s] 3)).lt r e).1
          refine ⟨k + 1, by simp, by have := HK.out; omega, ?_, ?_, ?_, ?_, by simp at hxs3; omega⟩
          · rw [rowI_succ, HV.out]; exact hown'
          · exact (HX.out.alloc _).kept hgrow (fun e => by have := hne _ e.symm; omega)
          · exact (hgrow.block _ (by have := HLR.out.lt; simp; omega) (fun e => by have := hne _ e.symm; omega)).trans (HLR.out.alloc _)
          · exact (HQ.out.alloc HQ.out.size _).grown hgrow (by simp; omega) (fun j e => by have := hne j e; omega)
        case measure => have := HK.out; first | (simp [intOf]; done) | (simp [intOf]; omega)
      · have HV := Lib.hid (HO.out k hlt (.inr hc))
        clear HI HO hlt
        go_wp2_with (at_builtin; refine wpList_append_own _ rfl _ _ 44 rfl base 3 i0 (.int .i64 0) 1 8 Tryd.underlying44 hi hz0 hz1 hz2 rfl (by decide) _ _ _ rfl (HRow.out.alloc _) ⟨wr.heap.size, 0, none⟩ 1 1 [.int .i64 s] rfl rfl (cell_one _ _ _) (by simp [Value.oneCell']) (by unfold maxLen; have := HK.out; omega) (by have := HK.out; omega) (by have := HZ.out; simp; omega) ?_; intro v' w3 hown' hgrow hnil)
        clear hi hz0 hz1 hz2
        go_wp2
        go_roundw
        case rel =>
          have hxs3 := hgrow.size
          have hzz := HZ.out
          obtain ⟨aI, aR, aW⟩ := HG.out
          have hne := fun (r : Nat) e => ((HRow.out.alloc (.cells #[.int .i64 s] 3)).lt r e).1
          refine ⟨k + 1, by simp, by have := HK.out; omega, ?_, ?_, ?_, ?_, by simp at hxs3; omega⟩
          · rw [rowI_succ, HV.out]; exact hown'
          · exact (HX.out.alloc _).kept hgrow (fun e => by have := hne _ e.symm; omega)
          · exact (hgrow.block _ (by have := HLR.out.lt; simp; omega) (fun e => by have := hne _ e.symm; omega)).trans (HLR.out.alloc _)
          · exact (HQ.out.alloc HQ.out.size _).grown hgrow (by simp; omega) (fun j e => by have := hne j e; omega)
        case measure => have := HK.out; first | (simp [intOf]; done) | (simp [intOf]; omega)
    · obtain rfl : k = 256 := by omega
      clear hk hlt HI HO aI aR aW
      rcases hown.2 with ⟨h1, h2⟩ | ⟨g3, cap3, cur, h1, hb, hg, _⟩
      · cases h1
      · cases h1
        have hx := IntsAt.of_row (d := fun j => (bt R j : Int)) hown (fun j hj => by simp [rowI, hj])
        have hx := hx.2
        clear hown hb hg hI
        go_wp2_with fail
        refine (HF.out _ _ _ hx).mono ?_
        rintro e v9 ⟨rfl, q⟩
        have LR := LR.later q
        have Q := Q.trans (q.mono Q.size)
        clear q hx HF
        have r0 := LR.cell 0 _ rfl
        have z0 := LR.frozen 0
        have r1 := LR.cell 1 _ rfl
        have z1 := LR.frozen 1
        have r2 := LR.cell 2 _ rfl
        have z2 := LR.frozen 2
        have r3 := LR.cell 3 _ rfl
        have z3 := LR.frozen 3
        have HR := Lib.hid (((((LR.set 0 (.int .u64 (lim R 0))).set 1 (.int .u64 (lim R 1))).set 2 (.int .u64 (lim R 2))).set 3 (.int .u64 (lim R 3))))
        have HQ := Lib.hid (((((Q.setCell (p := ⟨w.heap.size + 1, 0, none⟩) (show w.heap.size ≤ w.heap.size + 1 by omega) (.int .u64 (lim R 0))).setCell (p := ⟨w.heap.size + 1, 1, none⟩) (show w.heap.size ≤ w.heap.size + 1 by omega) (.int .u64 (lim R 1))).setCell (p := ⟨w.heap.size + 1, 2, none⟩) (show w.heap.size ≤ w.heap.size + 1 by omega) (.int .u64 (lim R 2))).setCell (p := ⟨w.heap.size + 1, 3, none⟩) (show w.heap.size ≤ w.heap.size + 1 by omega) (.int .u64 (lim R 3))))
        clear Q LR
        go_wp2
        refine bodyPost_ret (results_word (m := lim R) rfl rfl HR.out) rfl ⟨rfl, HQ.out⟩

end Go.Proofs.YtnlcllhjhbaigaaDoor
