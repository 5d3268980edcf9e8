import Derived.Test.YtlapajgmhclghaaGreatDoorU20
import Derived.Test.YtlapajgmhclghaaGreatDoorVRDeepF
import Derived.Test.YtlapajgmhclghaaGreatDoorVPick
/- RlpDeep: lists within lists. Conditions: errors.errorType lies in memory as it was laid. -/
namespace Go.Proofs.YtlapajgmhclghaaGreatDoor
open Go Go.RowKit
attribute [local go_sem] Oper.semAt_some Grows wide_fn

theorem conv_one (W : World) (g c : Nat) (hc : c < 256) (h : W.cell? ⟨g, 0, none⟩ = some (.int .u8 (c : Int))) : (convert 51 9 (.slice (some ⟨g, 0, none⟩) 1 1)).run Tryz.prog W = .ok (.string ⟨#[UInt8.ofNat c]⟩) W := by
  have e1 : ((UInt8.ofNat c).toNat : Int) = (c : Int) := by simp; omega
  have := run_convert_bytes_arg (P := Tryz.prog) W 51 5 Tryz.underlying51 Tryz.underlying5 g 0 1 1 ([UInt8.ofNat c].map fun b => (b.toNat : Int)) (by simp) (fun i hi => by
    obtain rfl : i = 0 := by omega
    rw [Nat.zero_add, h]
    simp
    omega) 9 Tryz.underlying9
  rw [strOf_list] at this
  exact this

def deepB (n : Nat) : ByteArray := ⟨(deepS n).toArray⟩
theorem deepB_size (n : Nat) : ((deepB n).size : Int) = (n : Int) + 1 := by
  unfold deepB
  rw [show (⟨(deepS n).toArray⟩ : ByteArray).size = (deepS n).length from by simp [ByteArray.size], deepS_len]
  omega
theorem deepB_succ (n : Nat) : (⟨#[UInt8.ofNat (192 + (n + 1))]⟩ : ByteArray) ++ deepB n = deepB (n + 1) := by
  unfold deepB
  apply ByteArray.ext
  apply Array.toList_inj.1
  simp [deepS, deepS_len]
def deepN (n : Nat) : Nat := (deepI n).kids.length
theorem deep_open {W : World} {S : Nat → Prop} {n : Nat} {v : Value} (h : ItemS W S (deepI n) v) : ∃ a cap, v = .agg #[.bool true, .string ⟨#[]⟩, .slice a (deepN n) cap] := by
  obtain ⟨a, cap, hv, _⟩ := h.open
  refine ⟨a, cap, ?_⟩
  rw [hv]
  cases n <;> rfl

theorem deep_enc (n : Nat) (h : n < 16) (v : Value) (w : World) (hv : ItemAt w (deepI n) v) : Calls Tryz.prog 15 #[v] w fun e w' => e = .returned (.tuple #[.string (deepB n), .int .i64 0]) ∧ Below w.heap.size w w' := by
  have := encode_any (deepI n) (by rw [countI_deep]; omega) (by rw [encI_deep n (by omega), deepS_len]; omega) v w hv
  rw [encS_good (encE_deep n h), encE_deep n h, encI_deep n (by omega)] at this
  exact this
theorem deep_enc_no (n : Nat) (h : 16 ≤ n) (h2 : n < 24) (v : Value) (w : World) (hv : ItemAt w (deepI n) v) : Calls Tryz.prog 15 #[v] w fun e w' => e = .returned (.tuple #[.string ⟨#[]⟩, .int .i64 1]) ∧ Below w.heap.size w w' := by
  have := encode_any (deepI n) (by rw [countI_deep]; omega) (by rw [encI_deep n (by omega), deepS_len]; omega) v w hv
  rw [encS_bad (by rw [encE_deep_no n h h2]; decide), encE_deep_no n h h2] at this
  exact this
theorem deep_right (n : Nat) (h : n < 24) (v : Value) (w : World) (hv : ItemAt w (deepI n) v) : Calls Tryz.prog 19 #[v] w fun e w' => e = .returned (.bool (decide (n < 16))) ∧ Below w.heap.size w w' := by
  have := right_any (deepI n) v w hv (by rw [countI_deep]; omega)
  rwa [ok_deep n h] at this
theorem deep_same (t : It) (v u : Value) (w : World) (h : ItemAt w t v) (h' : ItemAt w t u) : Calls Tryz.prog 21 #[v, u] w fun e w' => e = .returned (.bool true) ∧ Below w.heap.size w w' := by
  have := psame t t v u w h h'
  rwa [same_self] at this

/-- What the loop holds behind j rounds: the item lies in a box, and its lists in other blocks. -/
def DeepSt (w : World) (B j : Nat) (W : World) : Prop := ∃ a cap, Has W B 29 #[.bool true, .string ⟨#[]⟩, .slice a (deepN j) cap] ∧ ItemS W (fun b => b ≠ B) (deepI j) (.agg #[.bool true, .string ⟨#[]⟩, .slice a (deepN j) cap]) ∧ TabE W ∧ Below w.heap.size w W

set_option maxRecDepth 100000 in
set_option maxHeartbeats 8000000 in
theorem deep_walk (n : Int) (k : Nat) (w : World) (hT : TabE w) (hk : k < 24) (d_p : Ret Tryz.prog 11 #[.int .i64 n, .int .i64 24] (.int .i64 (k : Int))) :
    Calls Tryz.prog 7 #[.int .i64 n] w fun e w' => e = .returned (.bool true) ∧ Below w.heap.size w w' := by
  have hmx : Tryz.prog.follows .mixedOrders = true := by kernel_rfl
  have Q := Lib.hid (Below.refl w.heap.size w)
  have hT0 := hT
  replace hT := Lib.hid hT
  replace d_p := Lib.hid d_p
  go_enter Tryz.func7, Tryz.ntmps7
  go_wp2_with fail
  refine (awake_any _ hT.out).mono ?_
  rintro _ W1 ⟨rfl, q⟩
  replace hT := Lib.hid (hT.out.later q)
  replace Q := Lib.hid (Q.out.trans (q.mono Q.out.size))
  clear q
  go_wp2_with fail
  refine (d_p.out _).mono ?_
  rintro _ W2 ⟨rfl, q⟩
  replace hT := Lib.hid (hT.out.later q)
  replace Q := Lib.hid (Q.out.trans (q.mono Q.out.size))
  clear q
  go_wp2_with fail
  refine (list_any [] none 0 _ (.inl rfl) (by decide)).mono ?_
  rintro _ W3 ⟨g, cap, rfl, hX, q⟩
  replace hT := Lib.hid (hT.out.later q)
  replace Q := Lib.hid (Q.out.trans (q.mono Q.out.size))
  clear q
  simp only [List.length_nil]
  have NX := Has.new W3 29 #[.bool false, .string ⟨#[]⟩, .slice none 0 0]
  have L5 := Has.new W3 29 #[.bool true, .string ⟨#[]⟩, .slice g 0 cap]
  have q0 := (Below.refl W3.heap.size W3).alloc (Nat.le_refl _) (.cells #[.bool true, .string ⟨#[]⟩, .slice g 0 cap] 29)
  have hSt := Lib.hid (show DeepSt w W3.heap.size 0 (W3.alloc (.cells #[.bool true, .string ⟨#[]⟩, .slice g 0 cap] 29)) from
    ⟨g, cap, L5, hX.keep (fun b _ hl => q0.block b hl) (fun b _ hl => Nat.ne_of_lt hl), hT.out.later q0, Q.out.trans (q0.mono Q.out.size)⟩)

  have x0 := NX.cell 0 _ rfl
  have f0 := NX.frozen 0
  have y0 := L5.cell 0 _ rfl
  have g0 := L5.frozen 0
  have x1 := NX.cell 1 _ rfl
  have f1 := NX.frozen 1
  have y1 := L5.cell 1 _ rfl
  have g1 := L5.frozen 1
  have x2 := NX.cell 2 _ rfl
  have f2 := NX.frozen 2
  have y2 := L5.cell 2 _ rfl
  have g2 := L5.frozen 2
  replace NX := Lib.hid NX
  replace L5 := Lib.hid L5
  have Q0 := Lib.hid Q.out.size
  have hT0 := Lib.hid hT0
  go_wp2_with fail
  clear hT Q q0 NX L5 x0 f0 y0 g0 x1 f1 y1 g1 x2 f2 y2 g2
  generalize W3.alloc (.cells #[.bool true, .string ⟨#[]⟩, .slice g 0 cap] 29) = W4 at *
  have hwB0 := Lib.hid (show w.heap.size ≤ W3.heap.size from Q0.out)
  generalize W3.heap.size = B at *
  go_loopw [6, 7] (fun sv iv wr => ∃ j : Nat, j ≤ k ∧ iv = .int .i64 (j : Int) ∧ sv = .string (deepB j) ∧ DeepSt w B j wr) (fun _ iv _ => 24 - (intOf iv).toNat)
  case atStart => exact ⟨0, by omega, rfl, rfl, hSt.out⟩
  case round =>
    clear hSt
    obtain ⟨j, hj, rfl, rfl, a, cap, L5, hX, hT, Q⟩ := hrel
    have c0 := L5.cell 0 _ rfl
    have c1 := L5.cell 1 _ rfl
    have c2 := L5.cell 2 _ rfl
    have hsz := deepB_size j
    have hBlt := L5.lt
    by_cases hlt : j < k
    · have hltI : (j : Int) < (k : Int) := by omega
      obtain ⟨nj, hnj⟩ : ∃ nj, deepN j = nj := ⟨_, rfl⟩
      rw [hnj] at L5 hX c2
      have q0 := (Below.refl wr.heap.size wr).alloc (Nat.le_refl _) (.cells #[.bool true, .string ⟨#[]⟩, .slice a nj cap] 29)
      have N := Has.new wr 29 #[.bool true, .string ⟨#[]⟩, .slice a nj cap]
      have hkids : KidsIn (wr.alloc (.cells #[.bool true, .string ⟨#[]⟩, .slice a nj cap] 29)) [deepI j] (some ⟨wr.heap.size, 0, none⟩) := by
        refine .inr ⟨wr.heap.size, 0, rfl, ?_⟩
        unfold KidsAt
        refine ⟨⟨_, _, _, N.cell 0 _ rfl, N.cell 1 _ rfl, N.cell 2 _ rfl, hX.at.later q0⟩, ?_⟩
        unfold KidsAt
        trivial
      replace hkids := Lib.hid hkids
      replace L5 := Lib.hid (L5.later q0)
      replace hT := Lib.hid (hT.later q0)
      replace Q := Lib.hid (Q.trans (q0.mono Q.size))
      have hB2 := Lib.hid (show B < (wr.alloc (.cells #[.bool true, .string ⟨#[]⟩, .slice a nj cap] 29)).heap.size by simp; omega)
      clear N hX q0
      go_wp2_with fail
      refine (list_any [deepI j] (some ⟨wr.heap.size, 0, none⟩) 1 _ hkids.out (by show 1 ≤ 1099511627776; omega)).mono ?_
      rintro _ W5 ⟨a2, cap2, rfl, hX2, q⟩
      simp only [List.length_cons, List.length_nil, Nat.zero_add]
      replace L5 := L5.out.later q
      replace hT := hT.out.later q
      replace Q := Q.out.trans (q.mono Q.out.size)
      have x0 := L5.cell 0 _ rfl
      have x1 := L5.cell 1 _ rfl
      have x2 := L5.cell 2 _ rfl
      have f0 := L5.frozen 0
      have f1 := L5.frozen 1
      have f2 := L5.frozen 2
      have S5 := Lib.hid (((L5.set 0 (.bool true)).set 1 (.string ⟨#[]⟩)).set 2 (.slice a2 1 cap2))
      obtain ⟨X, hX⟩ : ∃ X, ((W5.setCell ⟨B, 0, none⟩ (.bool true)).setCell ⟨B, 1, none⟩ (.string ⟨#[]⟩)).setCell ⟨B, 2, none⟩ (.slice a2 1 cap2) = X := ⟨_, rfl⟩
      have hXs : X.heap.size = W5.heap.size := by rw [← hX]; simp
      have hXb : ∀ b, b ≠ B → X.heap[b]? = W5.heap[b]? := fun b hb => by
        rw [← hX]
        exact (Below.heap_setCell _ _ _ b hb).trans ((Below.heap_setCell _ _ _ b hb).trans (Below.heap_setCell _ _ _ b hb))
      have hwB := Lib.hid hwB0.out
      have qX := ((Q.setCell (p := ⟨B, 0, none⟩) hwB.out (.bool true)).setCell (p := ⟨B, 1, none⟩) hwB.out (.string ⟨#[]⟩)).setCell (p := ⟨B, 2, none⟩) hwB.out (.slice a2 1 cap2)
      rw [hX] at S5 qX
      have hTX : TabE X := TabE.later hT0.out qX
      have q1 := (Below.refl X.heap.size X).alloc (Nat.le_refl _) (.cells #[.int .u8 (192 + ((j : Int) + 1))] 5)
      have N1 := Has.new X 5 #[.int .u8 (192 + ((j : Int) + 1))]
      have hcv : (convert 51 9 (.slice (some ⟨X.heap.size, 0, none⟩) 1 1)).run Tryz.prog (X.alloc (.cells #[.int .u8 (192 + ((j : Int) + 1))] 5)) = .ok (.string ⟨#[UInt8.ofNat (192 + (j + 1))]⟩) (X.alloc (.cells #[.int .u8 (192 + ((j : Int) + 1))] 5)) :=
        conv_one _ X.heap.size (192 + (j + 1)) (by omega) (by rw [N1.cell 0 _ rfl]; simp)
      have hfin := Lib.hid (show DeepSt w B (j + 1) (X.alloc (.cells #[.int .u8 (192 + ((j : Int) + 1))] 5)) from
        ⟨a2, cap2, S5.out.later q1, (hX2.keep (X := X.alloc (.cells #[.int .u8 (192 + ((j : Int) + 1))] 5)) (T := fun b => b ≠ B) (fun b hb hl => by
          have hne : b ≠ B := by have := hB2.out; omega
          exact (q1.block b (by rw [hXs]; exact hl)).trans (hXb b hne)) (fun b hb _ => by have := hB2.out; omega)), hTX.later q1, qX.trans (q1.mono qX.size)⟩)
      replace L5 := Lib.hid L5
      replace hT := Lib.hid hT
      replace Q := Lib.hid Q
      replace N1 := Lib.hid N1
      replace S5 := Lib.hid S5
      clear c0 c1 c2 hkids hX2 hXb q q1 qX hTX hXs
      have hsv := Lib.hid (deepB_succ j)
      go_wp2_with fail
      refine ⟨⟨j + 1, by omega, by simp, ?_, hfin.out⟩, by simp only [intOf]; omega⟩
      rw [← hsv.out]
      simp
    · have hnlt : ¬ (j : Int) < (k : Int) := by omega
      obtain rfl : j = k := by omega
      clear hlt hj
      obtain ⟨nj, hnj⟩ : ∃ nj, deepN j = nj := ⟨_, rfl⟩
      rw [hnj] at L5 hX c2
      have hsl : (deepB j).size ≤ 1099511627776 := by omega
      by_cases hk16 : j < 16
      · have hE := Lib.hid (deep_enc j hk16 _ _ hX.at)
        have hD := Lib.hid (dec_good (deepB j) (deepI j) _ _ (dec_deep j hk16) hsl)
        have hR := Lib.hid (deep_right j hk)
        have hge : ¬ (16 : Int) ≤ (j : Int) := by omega
        rw [decide_eq_true hk16] at hR
        replace L5 := Lib.hid L5
        replace hX := Lib.hid hX
        replace hT := Lib.hid hT
        replace Q := Lib.hid Q
        go_wp2_with fail
        refine hE.out.mono ?_
        rintro _ W5 ⟨rfl, q⟩
        replace L5 := Lib.hid (L5.out.later q)
        replace hX := Lib.hid (hX.out.later q)
        replace hT := Lib.hid (hT.out.later q)
        replace Q := Lib.hid (Q.out.trans (q.mono Q.out.size))
        clear q c0 c1 c2 hE
        go_wp2_with fail
        refine (hD.out _ hT.out).mono ?_
        rintro _ W6 ⟨v, rfl, hY, q⟩
        replace L5 := Lib.hid (L5.out.later q)
        replace hX := Lib.hid (hX.out.later q)
        replace Q := Lib.hid (Q.out.trans (q.mono Q.out.size))
        clear q hD hT
        obtain ⟨g2, cap2, rfl⟩ := deep_open hY
        rw [hnj] at hY ⊢
        have NX := Has.new W6 29 #[.bool false, .string ⟨#[]⟩, .slice none 0 0]
        have x0 := NX.cell 0 _ rfl
        have x1 := NX.cell 1 _ rfl
        have x2 := NX.cell 2 _ rfl
        have f0 := NX.frozen 0
        have f1 := NX.frozen 1
        have f2 := NX.frozen 2
        replace NX := Lib.hid NX
        obtain ⟨W7, hW7⟩ : ∃ W7, W6.alloc (.cells #[.bool true, .string ⟨#[]⟩, .slice g2 nj cap2] 29) = W7 := ⟨_, rfl⟩
        have qn : Below W6.heap.size W6 W7 := by rw [← hW7]; exact (Below.refl _ _).alloc (Nat.le_refl _) _
        have L10 := Lib.hid (show Has W7 W6.heap.size 29 #[.bool true, .string ⟨#[]⟩, .slice g2 nj cap2] by rw [← hW7]; exact Has.new _ _ _)
        replace L5 := Lib.hid (L5.out.later qn)
        replace hX := Lib.hid (hX.out.later qn)
        replace hY := Lib.hid (hY.later qn)
        replace Q := Lib.hid (Q.out.trans (qn.mono Q.out.size))
        have c0 := L5.out.cell 0 _ rfl
        have c1 := L5.out.cell 1 _ rfl
        have c2 := L5.out.cell 2 _ rfl
        go_wp2_with fail
        clear qn NX x0 x1 x2 f0 f1 f2 hW7 c0 c1 c2
        refine (hR.out _ _ hX.out.at).mono ?_
        rintro _ W8 ⟨rfl, q⟩
        replace L5 := Lib.hid (L5.out.later q)
        replace L10 := Lib.hid (L10.out.later q)
        replace hX := Lib.hid (hX.out.later q)
        replace hY := Lib.hid (hY.out.later q)
        replace Q := Lib.hid (Q.out.trans (q.mono Q.out.size))
        clear q
        have c0 := L5.out.cell 0 _ rfl
        have c1 := L5.out.cell 1 _ rfl
        have c2 := L5.out.cell 2 _ rfl
        have d0 := L10.out.cell 0 _ rfl
        have d1 := L10.out.cell 1 _ rfl
        have d2 := L10.out.cell 2 _ rfl
        go_wp2_with fail
        refine (deep_same _ _ _ _ hX.out.at hY.out.at).mono ?_
        rintro _ W9 ⟨rfl, q⟩
        replace Q := Lib.hid (Q.out.trans (q.mono Q.out.size))
        clear q c0 c1 c2 d0 d1 d2
        go_wp2_with fail
        go_ret
        exact ⟨rfl, Q.out⟩
      · have hE := Lib.hid (deep_enc_no j (by omega) hk _ _ hX.at)
        have hD := Lib.hid (dec_fail (deepB j) 13 16 13 16 (by have := dec_deep_no (j - 16) (by omega); rw [show 16 + (j - 16) = j by omega] at this; exact this) rfl rfl hsl)
        have hR := Lib.hid (deep_right j hk)
        have hge : (16 : Int) ≤ (j : Int) := by omega
        rw [decide_eq_false hk16] at hR
        replace L5 := Lib.hid L5
        replace hX := Lib.hid hX
        replace hT := Lib.hid hT
        replace Q := Lib.hid Q
        go_wp2_with fail
        refine hE.out.mono ?_
        rintro _ W5 ⟨rfl, q⟩
        replace L5 := Lib.hid (L5.out.later q)
        replace hX := Lib.hid (hX.out.later q)
        replace hT := Lib.hid (hT.out.later q)
        replace Q := Lib.hid (Q.out.trans (q.mono Q.out.size))
        clear q c0 c1 c2 hE
        go_wp2_with fail
        refine (hD.out _ hT.out).mono ?_
        rintro _ W6 ⟨rfl, q⟩
        replace L5 := Lib.hid (L5.out.later q)
        replace hX := Lib.hid (hX.out.later q)
        replace Q := Lib.hid (Q.out.trans (q.mono Q.out.size))
        clear q hD hT
        have NX := Has.new W6 29 #[.bool false, .string ⟨#[]⟩, .slice none 0 0]
        have x0 := NX.cell 0 _ rfl
        have x1 := NX.cell 1 _ rfl
        have x2 := NX.cell 2 _ rfl
        have f0 := NX.frozen 0
        have f1 := NX.frozen 1
        have f2 := NX.frozen 2
        replace NX := Lib.hid NX
        have qn := (Below.refl W6.heap.size W6).alloc (Nat.le_refl _) (.cells #[.bool false, .string ⟨#[]⟩, .slice none 0 0] 29)
        replace L5 := Lib.hid (L5.out.later qn)
        replace hX := Lib.hid (hX.out.later qn)
        replace Q := Lib.hid (Q.out.trans (qn.mono Q.out.size))
        have c0 := L5.out.cell 0 _ rfl
        have c1 := L5.out.cell 1 _ rfl
        have c2 := L5.out.cell 2 _ rfl
        go_wp2_with fail
        clear qn NX x0 x1 x2 f0 f1 f2 c0 c1 c2
        refine (hR.out _ _ hX.out.at).mono ?_
        rintro _ W8 ⟨rfl, q⟩
        replace Q := Lib.hid (Q.out.trans (q.mono Q.out.size))
        clear q
        go_wp2_with fail
        go_ret
        exact ⟨rfl, Q.out⟩
  

theorem deep_ret (n : Int) (hn : I64 n) (w : World) (hT : TabE w) : Calls Tryz.prog 7 #[.int .i64 n] w fun e w' => e = .returned (.bool true) ∧ Below w.heap.size w w' := by
  have hr := pickN_range n 24 (by omega)
  obtain ⟨k, hk⟩ : ∃ k : Nat, pickN n 24 = k := ⟨(pickN n 24).toNat, by omega⟩
  have hp := pick_ret n hn 24 (by omega) (by omega)
  rw [hk] at hp
  exact deep_walk n k w hT (by omega) hp
end Go.Proofs.YtlapajgmhclghaaGreatDoor
