/- Part. -/
import Derived.Test.YtnkhmgmganejmaaGreatDoorG20
import Derived.Laws.IdiomRangeMap
import Derived.Test.YtnkhmgmganejmaaGreatDoorG19
import Derived.Test.YtnkhmgmganejmaaGreatDoorG16
import Derived.Test.YtnkhmgmganejmaaGreatDoorG09
set_option maxRecDepth 100000
set_option maxHeartbeats 16000000
namespace Go.Proofs.YtnkhmgmganejmaaGreatDoor
section
open Go Go.RowKit Go.Maps
attribute [local go_sem] Oper.semAt_some Grows wide_fn
def RowP (w : World) (f : Nat → Option Inf) (e : Ending) (w' : World) : Prop := ∃ v, e = .returned v ∧ MapV w' v 40 f ∧ (∀ S, v = .map (some S) → w.heap.size ≤ S) ∧ Below w.heap.size w w'
theorem NewB.row {w w' : World} {f : Nat → Option Inf} {e : Ending} (h : NewB w f e w') : RowP w f e w' := by
 obtain ⟨B, n, rfl, hn, hm, h1, hb⟩ := h
 exact ⟨_, rfl, .inr ⟨B, rfl, hm.mono hn⟩, (fun S e => by cases e; exact h1), hb⟩
theorem NewB.congr {w w' : World} {f g : Nat → Option Inf} {e : Ending} (h : NewB w f e w') (hf : ∀ op, op < 256 → f op = g op) : NewB w g e w' := by
 obtain ⟨B, n, rfl, hn, hm, h1, hb⟩ := h
 exact ⟨B, n, rfl, hn, hm.congr hf, h1, hb⟩
theorem row_0 (op : Nat) (ho : op < 256) (hd : op / 16 = 0) (W : World) : Calls Tryz.prog 62 #[.int .u8 (op : Int)] W (RowP W (findI (opRow 0))) := by
 have h0 : (0 : Int) ≤ (op : Int) := by omega
 have h1 : (op : Int) < 256 := by omega
 have h2 : (op : Int) / 16 = 0 := by omega
 clear ho hd
 have HC := hid (reckoning_any W)
 go_enter Tryz.func62, Tryz.ntmps62
 go_wp2_with fail
 refine HC.out.mono ?_
 rintro e w1 h
 obtain ⟨v, rfl, h'⟩ := h.row
 have H := hid h'
 clear h h'
 go_wp2_with fail
 go_ret
 exact ⟨v, rfl, H.out⟩
theorem row_1 (op : Nat) (ho : op < 256) (hd : op / 16 = 1) (W : World) : Calls Tryz.prog 62 #[.int .u8 (op : Int)] W (RowP W (findI (opRow 1))) := by
 have h0 : (0 : Int) ≤ (op : Int) := by omega
 have h1 : (op : Int) < 256 := by omega
 have h2 : (op : Int) / 16 = 1 := by omega
 clear ho hd
 have HC := hid (comparing_any W)
 go_enter Tryz.func62, Tryz.ntmps62
 go_wp2_with fail
 refine HC.out.mono ?_
 rintro e w1 h
 obtain ⟨v, rfl, h'⟩ := h.row
 have H := hid h'
 clear h h'
 go_wp2_with fail
 go_ret
 exact ⟨v, rfl, H.out⟩
theorem row_2 (op : Nat) (ho : op < 256) (hd : op / 16 = 2) (W : World) : Calls Tryz.prog 62 #[.int .u8 (op : Int)] W (RowP W (findI (opRow 2))) := by
 have h0 : (0 : Int) ≤ (op : Int) := by omega
 have h1 : (op : Int) < 256 := by omega
 have h2 : (op : Int) / 16 = 2 := by omega
 clear ho hd
 have hmm := @run_makeMap Tryz.prog
 have hb4 := build4
 unfold tI at hb4
 have hm0 := MapB.made W
 have hb0 := (Below.refl W.heap.size W).alloc (Nat.le_refl _) (.map #[] 0)
 have hs0 : W.heap.size ≤ (W.alloc (.map #[] 0)).heap.size := hb0.size
 go_enter Tryz.func62, Tryz.ntmps62
 go_wp2_with (first | (refine wpList_putMB _ rfl _ _ _ (.inr rfl) _ _ _ rfl hm0 (by omega) 32 ([75, 69, 67, 67, 65, 75, 50, 53, 54], 2, 1, 30) rfl (by decide) rfl ?_; intro w1 h1 g1))
 go_ret
 exact ⟨_, rfl, .inr ⟨_, rfl, (h1.mono (by decide)).congr (by decide +kernel)⟩, (fun S e => by cases e; exact Nat.le_refl _), hb0.grown g1 hs0 (fun k e => by cases e; exact Nat.le_refl _)⟩
theorem row_3 (op : Nat) (ho : op < 256) (hd : op / 16 = 3) (W : World) : Calls Tryz.prog 62 #[.int .u8 (op : Int)] W (RowP W (findI (opRow 3))) := by
 have h0 : (0 : Int) ≤ (op : Int) := by omega
 have h1 : (op : Int) < 256 := by omega
 have h2 : (op : Int) / 16 = 3 := by omega
 clear ho hd
 have HC := hid (asking_any W)
 go_enter Tryz.func62, Tryz.ntmps62
 go_wp2_with fail
 refine HC.out.mono ?_
 rintro e w1 h
 obtain ⟨v, rfl, h'⟩ := h.row
 have H := hid h'
 clear h h'
 go_wp2_with fail
 go_ret
 exact ⟨v, rfl, H.out⟩
theorem row_4 (op : Nat) (ho : op < 256) (hd : op / 16 = 4) (W : World) : Calls Tryz.prog 62 #[.int .u8 (op : Int)] W (RowP W (findI (opRow 4))) := by
 have h0 : (0 : Int) ≤ (op : Int) := by omega
 have h1 : (op : Int) < 256 := by omega
 have h2 : (op : Int) / 16 = 4 := by omega
 clear ho hd
 have HC := hid (askingTheBlock_any W)
 go_enter Tryz.func62, Tryz.ntmps62
 go_wp2_with fail
 refine HC.out.mono ?_
 rintro e w1 h
 obtain ⟨v, rfl, h'⟩ := h.row
 have H := hid h'
 clear h h'
 go_wp2_with fail
 go_ret
 exact ⟨v, rfl, H.out⟩
theorem row_5 (op : Nat) (ho : op < 256) (hd : op / 16 = 5) (W : World) : Calls Tryz.prog 62 #[.int .u8 (op : Int)] W (RowP W (findI (opRow 5))) := by
 have h0 : (0 : Int) ≤ (op : Int) := by omega
 have h1 : (op : Int) < 256 := by omega
 have h2 : (op : Int) / 16 = 5 := by omega
 clear ho hd
 have HC := hid (keeping_any W)
 go_enter Tryz.func62, Tryz.ntmps62
 go_wp2_with fail
 refine HC.out.mono ?_
 rintro e w1 h
 obtain ⟨v, rfl, h'⟩ := h.row
 have H := hid h'
 clear h h'
 go_wp2_with fail
 go_ret
 exact ⟨v, rfl, H.out⟩
theorem row_6 (op : Nat) (ho : op < 256) (hd : op / 16 = 6) (W : World) : Calls Tryz.prog 62 #[.int .u8 (op : Int)] W (RowP W (findI (opRow 6))) := by
 have h0 : (0 : Int) ≤ (op : Int) := by omega
 have h1 : (op : Int) < 256 := by omega
 have h2 : (op : Int) / 16 = 6 := by omega
 clear ho hd
 have HC := hid (numbered_pushing _ rule_pushing 96 [80, 85, 83, 72] 1 16 (by decide) (by decide) (by decide) (by decide) W)
 simp only [Int.cast_ofNat_Int, Int.reduceAdd, Int.reduceSub] at HC
 go_enter Tryz.func62, Tryz.ntmps62
 go_wp2_with fail
 refine HC.out.mono ?_
 rintro e w1 h
 obtain ⟨v, rfl, h'⟩ := (h.congr (g := findI (opRow 6)) (by decide +kernel)).row
 have H := hid h'
 clear h h'
 go_wp2_with fail
 go_ret
 exact ⟨v, rfl, H.out⟩
theorem row_7 (op : Nat) (ho : op < 256) (hd : op / 16 = 7) (W : World) : Calls Tryz.prog 62 #[.int .u8 (op : Int)] W (RowP W (findI (opRow 7))) := by
 have h0 : (0 : Int) ≤ (op : Int) := by omega
 have h1 : (op : Int) < 256 := by omega
 have h2 : (op : Int) / 16 = 7 := by omega
 clear ho hd
 have HC := hid (numbered_pushing _ rule_pushing 112 [80, 85, 83, 72] 17 16 (by decide) (by decide) (by decide) (by decide) W)
 simp only [Int.cast_ofNat_Int, Int.reduceAdd, Int.reduceSub] at HC
 go_enter Tryz.func62, Tryz.ntmps62
 go_wp2_with fail
 refine HC.out.mono ?_
 rintro e w1 h
 obtain ⟨v, rfl, h'⟩ := (h.congr (g := findI (opRow 7)) (by decide +kernel)).row
 have H := hid h'
 clear h h'
 go_wp2_with fail
 go_ret
 exact ⟨v, rfl, H.out⟩
theorem row_8 (op : Nat) (ho : op < 256) (hd : op / 16 = 8) (W : World) : Calls Tryz.prog 62 #[.int .u8 (op : Int)] W (RowP W (findI (opRow 8))) := by
 have h0 : (0 : Int) ≤ (op : Int) := by omega
 have h1 : (op : Int) < 256 := by omega
 have h2 : (op : Int) / 16 = 8 := by omega
 clear ho hd
 have HC := hid (numbered_row1 _ rule_row1 128 [68, 85, 80] 1 16 (by decide) (by decide) (by decide) (by decide) W)
 simp only [Int.cast_ofNat_Int, Int.reduceAdd, Int.reduceSub] at HC
 go_enter Tryz.func62, Tryz.ntmps62
 go_wp2_with fail
 refine HC.out.mono ?_
 rintro e w1 h
 obtain ⟨v, rfl, h'⟩ := (h.congr (g := findI (opRow 8)) (by decide +kernel)).row
 have H := hid h'
 clear h h'
 go_wp2_with fail
 go_ret
 exact ⟨v, rfl, H.out⟩
theorem row_9 (op : Nat) (ho : op < 256) (hd : op / 16 = 9) (W : World) : Calls Tryz.prog 62 #[.int .u8 (op : Int)] W (RowP W (findI (opRow 9))) := by
 have h0 : (0 : Int) ≤ (op : Int) := by omega
 have h1 : (op : Int) < 256 := by omega
 have h2 : (op : Int) / 16 = 9 := by omega
 clear ho hd
 have HC := hid (numbered_row2 _ rule_row2 144 [83, 87, 65, 80] 1 16 (by decide) (by decide) (by decide) (by decide) W)
 simp only [Int.cast_ofNat_Int, Int.reduceAdd, Int.reduceSub] at HC
 go_enter Tryz.func62, Tryz.ntmps62
 go_wp2_with fail
 refine HC.out.mono ?_
 rintro e w1 h
 obtain ⟨v, rfl, h'⟩ := (h.congr (g := findI (opRow 9)) (by decide +kernel)).row
 have H := hid h'
 clear h h'
 go_wp2_with fail
 go_ret
 exact ⟨v, rfl, H.out⟩
theorem row_10 (op : Nat) (ho : op < 256) (hd : op / 16 = 10) (W : World) : Calls Tryz.prog 62 #[.int .u8 (op : Int)] W (RowP W (findI (opRow 10))) := by
 have h0 : (0 : Int) ≤ (op : Int) := by omega
 have h1 : (op : Int) < 256 := by omega
 have h2 : (op : Int) / 16 = 10 := by omega
 clear ho hd
 have HC := hid (numbered_row3 _ rule_row3 160 [76, 79, 71] 0 5 (by decide) (by decide) (by decide) (by decide) W)
 simp only [Int.cast_ofNat_Int, Int.reduceAdd, Int.reduceSub] at HC
 go_enter Tryz.func62, Tryz.ntmps62
 go_wp2_with fail
 refine HC.out.mono ?_
 rintro e w1 h
 obtain ⟨v, rfl, h'⟩ := (h.congr (g := findI (opRow 10)) (by decide +kernel)).row
 have H := hid h'
 clear h h'
 go_wp2_with fail
 go_ret
 exact ⟨v, rfl, H.out⟩
theorem row_11 (op : Nat) (ho : op < 256) (hd : op / 16 = 11) (W : World) : Calls Tryz.prog 62 #[.int .u8 (op : Int)] W (RowP W (findI (opRow 11))) := by
 have h0 : (0 : Int) ≤ (op : Int) := by omega
 have h1 : (op : Int) < 256 := by omega
 have h2 : (op : Int) / 16 = 11 := by omega
 clear ho hd
 go_enter Tryz.func62, Tryz.ntmps62
 go_wp2_with fail
 go_ret
 exact ⟨_, rfl, .inl ⟨rfl, fun _ _ => rfl⟩, (fun S e => by cases e), Below.refl _ _⟩
theorem row_12 (op : Nat) (ho : op < 256) (hd : op / 16 = 12) (W : World) : Calls Tryz.prog 62 #[.int .u8 (op : Int)] W (RowP W (findI (opRow 12))) := by
 have h0 : (0 : Int) ≤ (op : Int) := by omega
 have h1 : (op : Int) < 256 := by omega
 have h2 : (op : Int) / 16 = 12 := by omega
 clear ho hd
 go_enter Tryz.func62, Tryz.ntmps62
 go_wp2_with fail
 go_ret
 exact ⟨_, rfl, .inl ⟨rfl, fun _ _ => rfl⟩, (fun S e => by cases e), Below.refl _ _⟩
theorem row_13 (op : Nat) (ho : op < 256) (hd : op / 16 = 13) (W : World) : Calls Tryz.prog 62 #[.int .u8 (op : Int)] W (RowP W (findI (opRow 13))) := by
 have h0 : (0 : Int) ≤ (op : Int) := by omega
 have h1 : (op : Int) < 256 := by omega
 have h2 : (op : Int) / 16 = 13 := by omega
 clear ho hd
 go_enter Tryz.func62, Tryz.ntmps62
 go_wp2_with fail
 go_ret
 exact ⟨_, rfl, .inl ⟨rfl, fun _ _ => rfl⟩, (fun S e => by cases e), Below.refl _ _⟩
theorem row_14 (op : Nat) (ho : op < 256) (hd : op / 16 = 14) (W : World) : Calls Tryz.prog 62 #[.int .u8 (op : Int)] W (RowP W (findI (opRow 14))) := by
 have h0 : (0 : Int) ≤ (op : Int) := by omega
 have h1 : (op : Int) < 256 := by omega
 have h2 : (op : Int) / 16 = 14 := by omega
 clear ho hd
 go_enter Tryz.func62, Tryz.ntmps62
 go_wp2_with fail
 go_ret
 exact ⟨_, rfl, .inl ⟨rfl, fun _ _ => rfl⟩, (fun S e => by cases e), Below.refl _ _⟩
theorem row_15 (op : Nat) (ho : op < 256) (hd : op / 16 = 15) (W : World) : Calls Tryz.prog 62 #[.int .u8 (op : Int)] W (RowP W (findI (opRow 15))) := by
 have h0 : (0 : Int) ≤ (op : Int) := by omega
 have h1 : (op : Int) < 256 := by omega
 have h2 : (op : Int) / 16 = 15 := by omega
 clear ho hd
 have HC := hid (calling_any W)
 go_enter Tryz.func62, Tryz.ntmps62
 go_wp2_with fail
 refine HC.out.mono ?_
 rintro e w1 h
 obtain ⟨v, rfl, h'⟩ := h.row
 have H := hid h'
 clear h h'
 go_wp2_with fail
 go_ret
 exact ⟨v, rfl, H.out⟩
theorem row_any (op : Nat) (ho : op < 256) (W : World) : Calls Tryz.prog 62 #[.int .u8 (op : Int)] W (RowP W (findI (opRow (op / 16)))) := by
 obtain ⟨d, hd⟩ : ∃ d, op / 16 = d := ⟨_, rfl⟩
 rw [hd]
 match d, hd with
 | 0, hd => exact row_0 op ho hd W
 | 1, hd => exact row_1 op ho hd W
 | 2, hd => exact row_2 op ho hd W
 | 3, hd => exact row_3 op ho hd W
 | 4, hd => exact row_4 op ho hd W
 | 5, hd => exact row_5 op ho hd W
 | 6, hd => exact row_6 op ho hd W
 | 7, hd => exact row_7 op ho hd W
 | 8, hd => exact row_8 op ho hd W
 | 9, hd => exact row_9 op ho hd W
 | 10, hd => exact row_10 op ho hd W
 | 11, hd => exact row_11 op ho hd W
 | 12, hd => exact row_12 op ho hd W
 | 13, hd => exact row_13 op ho hd W
 | 14, hd => exact row_14 op ho hd W
 | 15, hd => exact row_15 op ho hd W
 | d + 16, hd => omega
theorem lookV_parts (f : Nat → Option Inf) (op : Nat) : ∃ (s : ByteArray) (po pu ga : Nat) (b : Bool), lookV f op = .tuple #[.agg #[.string s, .int .i64 (po : Int), .int .i64 (pu : Int), .int .i64 (ga : Int)], .bool b] := by
 obtain ⟨y, hy⟩ : ∃ y, (f op).getD noInf = y := ⟨_, rfl⟩
 obtain ⟨nm, po, pu, ga⟩ := y
 exact ⟨⟨nm.toArray⟩, po, pu, ga, (f op).isSome, by unfold lookV infV; rw [hy]⟩
theorem info_any (op : Nat) (ho : op < 256) (W : World) : Calls Tryz.prog 32 #[.int .u8 (op : Int)] W fun e w' => e = .returned (lookV opI op) ∧ Below W.heap.size W w' := by
 obtain ⟨s, po, pu, ga, b, e⟩ := lookV_parts opI op
 have HE := hid e
 have HF := hid (show lookV (findI (opRow (op / 16))) op = lookV opI op from rfl)
 have HO := hid ho
 clear e ho
 obtain ⟨W1, hW1⟩ : ∃ W1, W.alloc (.cells #[.string ⟨#[]⟩, .int .i64 0, .int .i64 0, .int .i64 0] 37) = W1 := ⟨_, rfl⟩
 have q1 : Below W.heap.size W W1 := hW1 ▸ (Below.refl _ W).alloc (Nat.le_refl _) _
 have n1 : Has W1 W.heap.size 37 #[.string ⟨#[]⟩, .int .i64 0, .int .i64 0, .int .i64 0] := hW1 ▸ Has.new _ _ _
 have Q1 := hid q1
 have N1 := hid n1
 clear q1 n1
 go_enter Tryz.func32, Tryz.ntmps32
 go_wp2_with fail
 refine (row_any op HO.out _).mono ?_
 rintro _ w2 ⟨v, rfl, hv, _, q2⟩
 have N2 := hid (N1.out.later q2)
 have Q2 := hid (Q1.out.trans (q2.mono Q1.out.size))
 have HL := hid (look_any w2 v 40 _ hv op HO.out)
 rw [HF.out, HE.out] at HL
 clear hv q2 hW1 N1
 go_wp2_with fail
 refine HL.out.mono ?_
 rintro _ w3 ⟨rfl, q3⟩
 obtain ⟨W4, hW4⟩ : ∃ W4, w3.alloc (.cells #[.string s, .int .i64 (po : Int), .int .i64 (pu : Int), .int .i64 (ga : Int)] tI) = W4 := ⟨_, rfl⟩
 have q4 : Below w3.heap.size w3 W4 := hW4 ▸ (Below.refl _ w3).alloc (Nat.le_refl _) _
 have m4 : Has W4 w3.heap.size tI #[.string s, .int .i64 (po : Int), .int .i64 (pu : Int), .int .i64 (ga : Int)] := hW4 ▸ Has.new _ _ _
 have n4 := (N2.out.later q3).later q4
 have Q4 := hid (Q2.out.trans ((q3.trans (q4.mono q3.size)).mono Q2.out.size))
 have N4 := hid n4
 have ac0 := n4.cell 0 _ rfl
 have ac1 := n4.cell 1 _ rfl
 have ac2 := n4.cell 2 _ rfl
 have ac3 := n4.cell 3 _ rfl
 have af0 := n4.frozen 0
 have af1 := n4.frozen 1
 have af2 := n4.frozen 2
 have af3 := n4.frozen 3
 have bc0 := m4.cell 0 _ rfl
 have bc1 := m4.cell 1 _ rfl
 have bc2 := m4.cell 2 _ rfl
 have bc3 := m4.cell 3 _ rfl
 unfold tI at hW4
 clear q3 q4 m4 n4
 go_wp2_with fail
 rw [HE.out]
 exact bodyPost_ret (results_infB (.inr rfl) rfl rfl rfl ((((N4.out.set 0 _).set 1 _).set 2 _).set 3 _)) rfl ⟨rfl, (((Q4.out.setCell (Nat.le_refl _) _).setCell (Nat.le_refl _) _).setCell (Nat.le_refl _) _).setCell (Nat.le_refl _) _⟩
end
section
open Go Go.RowKit Go.Maps
attribute [local go_sem] Oper.semAt_some Grows wide_fn eq4
theorem is_any (op : Nat) (ho : op < 256) (w : World) : Calls Tryz.prog 14 #[.int .u8 (op : Int)] w fun e w' => e = .returned (.bool (isOp op)) ∧ w' = w := by
 have o0 : (0 : Int) ≤ (op : Int) := by omega
 have key : ((op : Int) < 1 ∧ isOp op = false) ∨ ((1 : Int) ≤ op ∧ (op : Int) ≤ 11 ∧ isOp op = true) ∨ ((11 : Int) < op ∧ (op : Int) < 16 ∧ isOp op = false) ∨ ((16 : Int) ≤ op ∧ (op : Int) ≤ 29 ∧ isOp op = true) ∨ ((29 : Int) < op ∧ (op : Int) < 80 ∧ isOp op = false) ∨ (op = 80 ∧ isOp op = true) ∨ ((80 : Int) < op ∧ (op : Int) < 128 ∧ isOp op = false) ∨ ((128 : Int) ≤ op ∧ (op : Int) ≤ 159 ∧ isOp op = true) ∨ ((159 : Int) < op ∧ isOp op = false) := by
  unfold isOp
  simp only [decide_eq_true_eq, decide_eq_false_iff_not]
  omega
 have HK := hid key
 clear key
 obtain ⟨b, hb⟩ : ∃ b, isOp op = b := ⟨_, rfl⟩
 have HB := hid hb
 rw [hb] at HK ⊢
 clear hb
 rcases HK.out with ⟨h1, rfl⟩ | ⟨h1, h2, rfl⟩ | ⟨h1, h2, rfl⟩ | ⟨h1, h2, rfl⟩ | ⟨h1, h2, rfl⟩ | ⟨rfl, rfl⟩ | ⟨h1, h2, rfl⟩ | ⟨h1, h2, rfl⟩ | ⟨h1, rfl⟩
 ·clear HK HB
  have a0 : ¬ (1 : Int) ≤ (op : Int) := by omega
  have a1 : ¬ (16 : Int) ≤ (op : Int) := by omega
  have a2 : ¬ (128 : Int) ≤ (op : Int) := by omega
  have b0 : (op : Int) ≤ 11 := by omega
  have b1 : (op : Int) ≤ 29 := by omega
  have b2 : (op : Int) ≤ 159 := by omega
  have c0 : ¬ (op : Int) = 80 := by omega
  have c1 : ((op : Int) == 80) = false := by simpa using c0
  go_enter Tryz.func14, Tryz.ntmps14
  go_wp2
  go_ret
  exact ⟨rfl, rfl⟩
 ·clear HK HB
  have a0 : (1 : Int) ≤ (op : Int) := by omega
  have a1 : ¬ (16 : Int) ≤ (op : Int) := by omega
  have a2 : ¬ (128 : Int) ≤ (op : Int) := by omega
  have b0 : (op : Int) ≤ 11 := by omega
  have b1 : (op : Int) ≤ 29 := by omega
  have b2 : (op : Int) ≤ 159 := by omega
  have c0 : ¬ (op : Int) = 80 := by omega
  have c1 : ((op : Int) == 80) = false := by simpa using c0
  go_enter Tryz.func14, Tryz.ntmps14
  go_wp2
  go_ret
  exact ⟨rfl, rfl⟩
 ·clear HK HB
  have a0 : (1 : Int) ≤ (op : Int) := by omega
  have a1 : ¬ (16 : Int) ≤ (op : Int) := by omega
  have a2 : ¬ (128 : Int) ≤ (op : Int) := by omega
  have b0 : ¬ (op : Int) ≤ 11 := by omega
  have b1 : (op : Int) ≤ 29 := by omega
  have b2 : (op : Int) ≤ 159 := by omega
  have c0 : ¬ (op : Int) = 80 := by omega
  have c1 : ((op : Int) == 80) = false := by simpa using c0
  go_enter Tryz.func14, Tryz.ntmps14
  go_wp2
  go_ret
  exact ⟨rfl, rfl⟩
 ·clear HK HB
  have a0 : (1 : Int) ≤ (op : Int) := by omega
  have a1 : (16 : Int) ≤ (op : Int) := by omega
  have a2 : ¬ (128 : Int) ≤ (op : Int) := by omega
  have b0 : ¬ (op : Int) ≤ 11 := by omega
  have b1 : (op : Int) ≤ 29 := by omega
  have b2 : (op : Int) ≤ 159 := by omega
  have c0 : ¬ (op : Int) = 80 := by omega
  have c1 : ((op : Int) == 80) = false := by simpa using c0
  go_enter Tryz.func14, Tryz.ntmps14
  go_wp2
  go_ret
  exact ⟨rfl, rfl⟩
 ·clear HK HB
  have a0 : (1 : Int) ≤ (op : Int) := by omega
  have a1 : (16 : Int) ≤ (op : Int) := by omega
  have a2 : ¬ (128 : Int) ≤ (op : Int) := by omega
  have b0 : ¬ (op : Int) ≤ 11 := by omega
  have b1 : ¬ (op : Int) ≤ 29 := by omega
  have b2 : (op : Int) ≤ 159 := by omega
  have c0 : ¬ (op : Int) = 80 := by omega
  have c1 : ((op : Int) == 80) = false := by simpa using c0
  go_enter Tryz.func14, Tryz.ntmps14
  go_wp2
  go_ret
  exact ⟨rfl, rfl⟩
 ·clear HK HB
  go_enter Tryz.func14, Tryz.ntmps14
  go_wp2
  go_ret
  exact ⟨rfl, rfl⟩
 ·clear HK HB
  have a0 : (1 : Int) ≤ (op : Int) := by omega
  have a1 : (16 : Int) ≤ (op : Int) := by omega
  have a2 : ¬ (128 : Int) ≤ (op : Int) := by omega
  have b0 : ¬ (op : Int) ≤ 11 := by omega
  have b1 : ¬ (op : Int) ≤ 29 := by omega
  have b2 : (op : Int) ≤ 159 := by omega
  have c0 : ¬ (op : Int) = 80 := by omega
  have c1 : ((op : Int) == 80) = false := by simpa using c0
  go_enter Tryz.func14, Tryz.ntmps14
  go_wp2
  go_ret
  exact ⟨rfl, rfl⟩
 ·clear HK HB
  have a0 : (1 : Int) ≤ (op : Int) := by omega
  have a1 : (16 : Int) ≤ (op : Int) := by omega
  have a2 : (128 : Int) ≤ (op : Int) := by omega
  have b0 : ¬ (op : Int) ≤ 11 := by omega
  have b1 : ¬ (op : Int) ≤ 29 := by omega
  have b2 : (op : Int) ≤ 159 := by omega
  have c0 : ¬ (op : Int) = 80 := by omega
  have c1 : ((op : Int) == 80) = false := by simpa using c0
  go_enter Tryz.func14, Tryz.ntmps14
  go_wp2
  go_ret
  exact ⟨rfl, rfl⟩
 ·clear HK HB
  have a0 : (1 : Int) ≤ (op : Int) := by omega
  have a1 : (16 : Int) ≤ (op : Int) := by omega
  have a2 : (128 : Int) ≤ (op : Int) := by omega
  have b0 : ¬ (op : Int) ≤ 11 := by omega
  have b1 : ¬ (op : Int) ≤ 29 := by omega
  have b2 : ¬ (op : Int) ≤ 159 := by omega
  have c0 : ¬ (op : Int) = 80 := by omega
  have c1 : ((op : Int) == 80) = false := by simpa using c0
  go_enter Tryz.func14, Tryz.ntmps14
  go_wp2
  go_ret
  exact ⟨rfl, rfl⟩
theorem takes_info : ∀ op, op < 128 → isOp op = true → (opI op).map (fun x => x.2.1) = some (takesN op) := by decide +kernel
theorem look_takes (op : Nat) (h : op < 128) (hi : isOp op = true) : ∃ (s : ByteArray) (pu ga : Nat), lookV opI op = .tuple #[.agg #[.string s, .int .i64 (takesN op : Int), .int .i64 (pu : Int), .int .i64 (ga : Int)], .bool true] := by
 have := takes_info op h hi
 unfold lookV
 cases hx : opI op with
 | none => rw [hx] at this; cases this
 | some x =>
  rw [hx] at this
  injection this with this
  obtain ⟨s, po, pu, ga⟩ := x
  simp only at this
  subst this
  exact ⟨_, pu, ga, rfl⟩
theorem popL_le (s : List Nat) (k : Int) (n : Nat) (h : s.length ≤ n) : (popL s k).length ≤ n := by
 unfold popL
 split
 ·rw [List.length_take]; omega
 ·exact h
def DoP (W : World) (l : List Nat) (c : Int) (e : Ending) (w' : World) : Prop := ∃ v', e = .returned (.tuple #[v', .int .i64 c]) ∧ WdsAt w' v' l ∧ Below W.heap.size W w'
theorem replace_any (W : World) (hT : Tab W) (sv : Value) (s : List Nat) (op : Nat) (ho : op < 128) (hop : isOp op = true) (hs : WdsAt W sv s) (hk : s.length ≤ 10000) :
  Calls Tryz.prog 21 #[.int .u8 (op : Int), sv] W (DoP W (if askN s.length (takesN op) 0 0 = 0 then popL s (takesN op) ++ madeL op (popT s (takesN op)) else s) (askN s.length (takesN op) 0 0)) := by
 obtain ⟨st, pu, ga, hl⟩ := look_takes op ho hop
 have HI := hid (info_any op (by omega) W)
 rw [hl] at HI
 have HOP := hid (And.intro ho hop)
 have HT := hid hT
 have HS := hid hs
 have HK := hid hk
 have hfin := hid (show ∀ v' (w' : World) (c : Int), askN s.length (takesN op) 0 0 = c → c ≠ 0 → WdsAt w' v' s → Below W.heap.size W w' → DoP W (if askN s.length (takesN op) 0 0 = 0 then popL s (takesN op) ++ madeL op (popT s (takesN op)) else s) (askN s.length (takesN op) 0 0) (.returned (.tuple #[v', .int .i64 c])) w' from fun v' w' c h1 h2 h3 h4 => by
  rw [h1, if_neg h2]
  exact ⟨v', rfl, h3, h4⟩)
 have hfin2 := hid (show ∀ v' (w' : World), askN s.length (takesN op) 0 0 = 0 → WdsAt w' v' (popL s (takesN op) ++ madeL op (popT s (takesN op))) → Below W.heap.size W w' → DoP W (if askN s.length (takesN op) 0 0 = 0 then popL s (takesN op) ++ madeL op (popT s (takesN op)) else s) (askN s.length (takesN op) 0 0) (.returned (.tuple #[v', .int .i64 0])) w' from fun v' w' h1 h3 h4 => by
  rw [h1, if_pos rfl]
  exact ⟨v', rfl, h3, h4⟩)
 have HPOP := hid (fun X (hX : Below W.heap.size W X) => pop_row X sv s (takesN op) (hs.later hX) hk)
 have HTL := hid (show askN s.length (takesN op) 0 0 = 0 → (popT s (takesN op)).length = takesN op from fun h => by unfold popT; rw [if_pos h]; simp)
 have HLEN := hid (show (popL s (takesN op)).length ≤ 10000 ∧ (madeL op (popT s (takesN op))).length ≤ 1 from ⟨popL_le s _ _ hk, by unfold madeL; (repeat' split) <;> simp⟩)
 have HWM := hid (fun X (hX : Below W.heap.size W X) => maker_any X op (by omega) ⟨hop, ho⟩)
 obtain ⟨Post, hPost⟩ : ∃ Post, DoP W (if askN s.length (takesN op) 0 0 = 0 then popL s (takesN op) ++ madeL op (popT s (takesN op)) else s) (askN s.length (takesN op) 0 0) = Post := ⟨_, rfl⟩
 rw [hPost] at hfin hfin2 ⊢
 obtain ⟨k, hkk⟩ : ∃ k, takesN op = k := ⟨_, rfl⟩
 rw [hkk] at HI HPOP HTL HLEN HWM hfin hfin2
 have HKK := hid hkk
 obtain ⟨c, hc⟩ : ∃ c, askN s.length k 0 0 = c := ⟨_, rfl⟩
 have HC := hid hc
 rw [hc] at HPOP
 obtain ⟨a0, cp, hsv, _, _⟩ := hs.shape
 generalize s.length = sn at hsv
 subst hsv
 clear hPost hkk hc hl hT hs hk ho hop
 go_enter Tryz.func21, Tryz.ntmps21
 go_wp2_with fail
 refine HI.out.mono ?_
 rintro _ w1 ⟨rfl, q1⟩
 obtain ⟨W2, hW2⟩ : ∃ W2, w1.alloc (.cells #[.string st, .int .i64 (k : Int), .int .i64 (pu : Int), .int .i64 (ga : Int)] 37) = W2 := ⟨_, rfl⟩
 have q2 : Below w1.heap.size w1 W2 := hW2 ▸ (Below.refl _ w1).alloc (Nat.le_refl _) _
 have N2 : Has W2 w1.heap.size 37 #[.string st, .int .i64 (k : Int), .int .i64 (pu : Int), .int .i64 (ga : Int)] := hW2 ▸ Has.new _ _ _
 have HN2 := hid N2
 have Q2 := hid (q1.trans (q2.mono q1.size))
 have HW2 := hid hW2
 have i1 := N2.cell 1 _ rfl
 rw [← hW2] at i1
 clear hW2 q1 q2 N2 HI
 go_wp2_with fail
 rw [HW2.out] at i1 ⊢
 refine (HPOP.out W2 Q2.out).mono ?_
 rintro _ w3 ⟨rv, tv, rfl, hr, ht, q3⟩
 have HR := hid hr
 have HTV := hid ht
 have HB3 := hid q3.size
 have Q3 := hid (Q2.out.trans (q3.mono Q2.out.size))
 have i3 := (HN2.out.later q3).cell 1 _ rfl
 obtain ⟨ra, rc, hrv, _, _⟩ := hr.keys.shape
 obtain ⟨ta, tc, htv, _, _⟩ := ht.shape
 generalize (popL s (k : Int)).length = rn at hrv
 generalize (popT s (k : Int)).length = tn at htv
 subst hrv
 subst htv
 clear hr ht q3 i1
 by_cases h0 : c = 0
 ·subst h0
  go_wp2_with fail
  refine (HWM.out w3 Q3.out).mono ?_
  rintro _ w4 ⟨fv, rfl, hfv, q4⟩
  obtain ⟨g, cap, rfl, hE, hcall⟩ := hfv
  have HCALL := hid (hcall w4 (Keep.refl _) (HT.out.later (Q3.out.trans (q4.mono Q3.out.size))) _ _ (HTL.out HC.out) (HTV.out.later q4))
  have Q4 := hid (Q3.out.trans (q4.mono Q3.out.size))
  have HR4 := hid (HR.out.later q4)
  have HB4 := hid (Nat.le_trans HB3.out q4.size)
  unfold Go.Proofs.Enters at hE
  clear hcall q4
  go_wp2_with fail
  refine HCALL.out.mono ?_
  rintro _ w5 ⟨mv, rfl, hmv, q5⟩
  obtain ⟨v', w', happ, hrow, _, hbel⟩ := append_words w5 W2.heap.size _ _ (HR4.out.later q5).1 (Nat.le_trans HB4.out q5.size) mv _ hmv (by have := HLEN.out; omega)
  have HF := hid (hfin2.out v' w' HC.out (hrow.keys (fun x hx => (List.mem_append.1 hx).elim (HR4.out.2 x) (hmv.all x))) ((Q4.out.trans (q5.mono Q4.out.size)).trans (hbel.mono (Q2.out.size))))
  clear hmv hrow hbel q5 hE i3
  go_wp2_with (at_builtin; refine wpList_append_runW rfl (.tmp 28) (.tmp 34) 27 rfl _ _ _ rfl rfl happ ?_)
  exact HF.out
 ·have HF := hid (fun v' w' => hfin.out v' w' c HC.out h0)
  have HPL := hid (show popL s (k : Int) = s by unfold popL; rw [HC.out, if_neg h0])
  go_wp2
  exact HF.out _ _ (by rw [← HPL.out]; exact HR.out.keys) Q3.out
theorem do_any (W : World) (hT : Tab W) (sv : Value) (s : List Nat) (op : Nat) (ho : op < 256) (hs : WdsAt W sv s) (hk : s.length ≤ 10000) :
  Calls Tryz.prog 11 #[.int .u8 (op : Int), sv] W (DoP W (doL op s) (doE op s)) := by
 have HIS := hid (is_any op ho W)
 have HC := hid (clone_words' W sv s hs (by omega))
 have o0 : (0 : Int) ≤ (op : Int) := by omega
 have o1 : (op : Int) < 256 := by omega
 have hfin := hid (show ∀ v' (w' : World) (c : Int) (l : List Nat), doE op s = c → doL op s = l → WdsAt w' v' l → Below W.heap.size W w' → DoP W (doL op s) (doE op s) (.returned (.tuple #[v', .int .i64 c])) w' from fun v' w' c l h1 h2 h3 h4 => by subst h1 h2; exact ⟨v', rfl, h3, h4⟩)
 obtain ⟨Post, hPost⟩ : ∃ Post, DoP W (doL op s) (doE op s) = Post := ⟨_, rfl⟩
 rw [hPost] at hfin ⊢
 clear hPost
 obtain ⟨a0, cp, hsv, _, _⟩ := hs.shape
 by_cases hi : isOp op = true
 ·rw [hi] at HIS
  by_cases h1 : 144 ≤ op
  ·have HSW := hid (swap_any W sv s ((op : Int) - 144 + 1) hs hk)
   have HE := hid (show doE op s = askN s.length ((op : Int) - 144 + 1) 1 1 by unfold doE; rw [hi, if_neg (by decide), if_pos h1])
   have HL := hid (show doL op s = swpL s ((op : Int) - 144 + 1) by unfold doL; rw [hi, if_neg (by decide), if_pos h1])
   have c1 : (144 : Int) ≤ (op : Int) := by omega
   have c2 : (0 : Int) ≤ (op : Int) - 144 := by omega
   have c3 : (op : Int) - 144 < 256 := by omega
   obtain ⟨dl, hdl⟩ : ∃ dl, (swpL s ((op : Int) - 144 + 1)) = dl := ⟨_, rfl⟩
   rw [hdl] at HSW HL
   obtain ⟨de, hde⟩ : ∃ de, (askN s.length ((op : Int) - 144 + 1) 1 1) = de := ⟨_, rfl⟩
   rw [hde] at HSW HE
   clear hdl hde
   clear HC hi hs hk h1 hT ho
   generalize s.length = sn at hsv
   subst hsv
   go_enter Tryz.func11, Tryz.ntmps11
   go_wp2_with fail
   refine HIS.out.mono ?_
   rintro _ w1 ⟨rfl, rfl⟩
   go_wp2_with fail
   refine HSW.out.mono ?_
   rintro _ w2 ⟨v', rfl, k2, q2⟩
   go_wp2
   exact hfin.out _ _ _ _ HE.out HL.out k2 q2
  ·by_cases h2 : 128 ≤ op
   ·have HSW := hid (dup_any W sv s ((op : Int) - 128 + 1) hs hk)
    have HE := hid (show doE op s = dupE s ((op : Int) - 128 + 1) by unfold doE; rw [hi, if_neg (by decide), if_neg h1, if_pos h2])
    have HL := hid (show doL op s = dupL s ((op : Int) - 128 + 1) by unfold doL; rw [hi, if_neg (by decide), if_neg h1, if_pos h2])
    have c1 : ¬ (144 : Int) ≤ (op : Int) := by omega
    have c6 : (128 : Int) ≤ (op : Int) := by omega
    have c2 : (0 : Int) ≤ (op : Int) - 128 := by omega
    have c3 : (op : Int) - 128 < 256 := by omega
    obtain ⟨dl, hdl⟩ : ∃ dl, (dupL s ((op : Int) - 128 + 1)) = dl := ⟨_, rfl⟩
    rw [hdl] at HSW HL
    obtain ⟨de, hde⟩ : ∃ de, (dupE s ((op : Int) - 128 + 1)) = de := ⟨_, rfl⟩
    rw [hde] at HSW HE
    clear hdl hde
    clear HC hi hs hk h1 h2 hT ho
    generalize s.length = sn at hsv
    subst hsv
    go_enter Tryz.func11, Tryz.ntmps11
    go_wp2_with fail
    refine HIS.out.mono ?_
    rintro _ w1 ⟨rfl, rfl⟩
    go_wp2_with fail
    refine HSW.out.mono ?_
    rintro _ w2 ⟨v', rfl, k2, q2⟩
    go_wp2
    exact hfin.out _ _ _ _ HE.out HL.out k2 q2
   ·have HSW := hid (replace_any W hT sv s op (by omega) hi hs hk)
    have HE := hid (show doE op s = askN s.length (takesN op) 0 0 by unfold doE; rw [hi, if_neg (by decide), if_neg h1, if_neg h2])
    have HL := hid (show doL op s = if askN s.length (takesN op) 0 0 = 0 then popL s (takesN op) ++ madeL op (popT s (takesN op)) else s by unfold doL; rw [hi, if_neg (by decide), if_neg h1, if_neg h2])
    have c1 : ¬ (144 : Int) ≤ (op : Int) := by omega
    have c6 : ¬ (128 : Int) ≤ (op : Int) := by omega
    obtain ⟨dl, hdl⟩ : ∃ dl, (if askN s.length (takesN op) 0 0 = 0 then popL s (takesN op) ++ madeL op (popT s (takesN op)) else s) = dl := ⟨_, rfl⟩
    rw [hdl] at HSW HL
    obtain ⟨de, hde⟩ : ∃ de, (askN s.length (takesN op) 0 0) = de := ⟨_, rfl⟩
    rw [hde] at HSW HE
    clear hdl hde
    clear HC hi hs hk h1 h2 hT ho
    generalize s.length = sn at hsv
    subst hsv
    go_enter Tryz.func11, Tryz.ntmps11
    go_wp2_with fail
    refine HIS.out.mono ?_
    rintro _ w1 ⟨rfl, rfl⟩
    go_wp2_with fail
    refine HSW.out.mono ?_
    rintro _ w2 ⟨v', rfl, k2, q2⟩
    go_wp2
    exact hfin.out _ _ _ _ HE.out HL.out k2 q2
 ·have hf : isOp op = false := by simpa using hi
  rw [hf] at HIS
  have HSW := hid (clone_words' W sv s hs (by omega))
  have HE := hid (show doE op s = 42 by unfold doE; rw [if_pos hf])
  have HL := hid (show doL op s = s by unfold doL; rw [if_pos hf])
  clear hi hf hs hk hT ho
  generalize s.length = sn at hsv
  subst hsv
  go_enter Tryz.func11, Tryz.ntmps11
  go_wp2_with fail
  refine HIS.out.mono ?_
  rintro _ w1 ⟨rfl, rfl⟩
  go_wp2_with fail
  refine HSW.out.mono ?_
  rintro _ w2 ⟨v', rfl, k2, q2⟩
  go_wp2
  exact hfin.out _ _ _ _ HE.out HL.out k2 q2
end
section
open Go Go.RowKit
attribute [local go_sem] Oper.semAt_some Grows wide_fn eq4
theorem made_ofC (w : World) (l : List Nat) (cs : List Value) (h : flatW l = cs) (hw : ∀ x ∈ l, W256 x) (hl : l.length ≤ 100000) : WdsAt (w.alloc (.cells cs.toArray 24)) (.slice (some ⟨w.heap.size, 0, none⟩) l.length l.length) l := by subst h; exact words_made w l hw hl
theorem small_wC {l : List Nat} (h : ∀ x ∈ l, x ≤ 2000) : ∀ x ∈ l, W256 x := fun x hx => by have := h x hx; unfold W256; omega
theorem ofC_0 : Ret Tryz.prog 10 #[.int .i64 0] (.agg #[.int .u64 0, .int .u64 0, .int .u64 0, .int .u64 0]) := (refOf_ret 0 (by unfold I64; omega)).of_eq rfl (wv_of ⟨by decide, by decide, by decide, by decide⟩)
theorem ofC_1 : Ret Tryz.prog 10 #[.int .i64 1] (.agg #[.int .u64 1, .int .u64 0, .int .u64 0, .int .u64 0]) := (refOf_ret 1 (by unfold I64; omega)).of_eq rfl (wv_of ⟨by decide, by decide, by decide, by decide⟩)
theorem ofC_2 : Ret Tryz.prog 10 #[.int .i64 2] (.agg #[.int .u64 2, .int .u64 0, .int .u64 0, .int .u64 0]) := (refOf_ret 2 (by unfold I64; omega)).of_eq rfl (wv_of ⟨by decide, by decide, by decide, by decide⟩)
theorem ofC_3 : Ret Tryz.prog 10 #[.int .i64 3] (.agg #[.int .u64 3, .int .u64 0, .int .u64 0, .int .u64 0]) := (refOf_ret 3 (by unfold I64; omega)).of_eq rfl (wv_of ⟨by decide, by decide, by decide, by decide⟩)
theorem ofC_4 : Ret Tryz.prog 10 #[.int .i64 4] (.agg #[.int .u64 4, .int .u64 0, .int .u64 0, .int .u64 0]) := (refOf_ret 4 (by unfold I64; omega)).of_eq rfl (wv_of ⟨by decide, by decide, by decide, by decide⟩)
theorem ofC_5 : Ret Tryz.prog 10 #[.int .i64 5] (.agg #[.int .u64 5, .int .u64 0, .int .u64 0, .int .u64 0]) := (refOf_ret 5 (by unfold I64; omega)).of_eq rfl (wv_of ⟨by decide, by decide, by decide, by decide⟩)
theorem ofC_7 : Ret Tryz.prog 10 #[.int .i64 7] (.agg #[.int .u64 7, .int .u64 0, .int .u64 0, .int .u64 0]) := (refOf_ret 7 (by unfold I64; omega)).of_eq rfl (wv_of ⟨by decide, by decide, by decide, by decide⟩)
theorem awake_any (W : World) (hT : Tab W) : Calls Tryz.prog 8 #[] W fun e w' => e = .returned (.bool true) ∧ Below W.heap.size W w' := by
 have HTB := hid hT
 have O0 := hid ofC_0
 have O1 := hid ofC_1
 have O2 := hid ofC_2
 have O3 := hid ofC_3
 have O4 := hid ofC_4
 have O5 := hid ofC_5
 have O7 := hid ofC_7
 clear hT
 go_enter Tryz.func8, Tryz.ntmps8
 go_wp2_with fail
 refine (O3.out _).mono ?_
 rintro _ w1 ⟨rfl, q1⟩
 replace HTB := hid (HTB.out.later q1)
 have QQ := hid q1
 clear q1
 go_wp2_with fail
 refine (O5.out _).mono ?_
 rintro _ w2 ⟨rfl, q2⟩
 replace HTB := hid (HTB.out.later q2)
 replace QQ := hid (QQ.out.trans (q2.mono QQ.out.size))
 clear q2
 have q3 := newA w2 (.cells #[.int .u64 3, .int .u64 0, .int .u64 0, .int .u64 0, .int .u64 5, .int .u64 0, .int .u64 0, .int .u64 0] 24)
 have B1 := hid (made_ofC w2 [3, 5] [.int .u64 3, .int .u64 0, .int .u64 0, .int .u64 0, .int .u64 5, .int .u64 0, .int .u64 0, .int .u64 0] rfl (small_wC (by decide)) (by decide))
 replace HTB := hid (HTB.out.later q3)
 replace QQ := hid (QQ.out.trans (q3.mono QQ.out.size))
 clear q3
 go_wp2_with fail
 refine (do_any _ HTB.out _ [3, 5] 3 (by decide) B1.out (by decide)).mono ?_
 rintro _ w4 ⟨v, rfl, h, q⟩
 replace HTB := hid (HTB.out.later q)
 replace B1 := hid (B1.out.later q)
 replace QQ := hid (QQ.out.trans (q.mono QQ.out.size))
 clear q
 rw [show doE 3 [3, 5] = 0 by decide +kernel]
 replace h := (show WdsAt _ _ [2] from h)
 obtain ⟨aS, cS, rfl, _, _⟩ := h.shape
 have HS := hid h
 clear h
 simp only [List.length_cons, List.length_nil, Nat.zero_add] at HS ⊢
 clear B1
 go_wp2_with fail
 refine (O3.out _).mono ?_
 rintro _ w5 ⟨rfl, q5⟩
 replace HTB := hid (HTB.out.later q5)
 replace HS := hid (HS.out.later q5)
 replace QQ := hid (QQ.out.trans (q5.mono QQ.out.size))
 clear q5
 go_wp2_with fail
 refine (O5.out _).mono ?_
 rintro _ w6 ⟨rfl, q6⟩
 replace HTB := hid (HTB.out.later q6)
 replace HS := hid (HS.out.later q6)
 replace QQ := hid (QQ.out.trans (q6.mono QQ.out.size))
 clear q6
 have q7 := newA w6 (.cells #[.int .u64 3, .int .u64 0, .int .u64 0, .int .u64 0, .int .u64 5, .int .u64 0, .int .u64 0, .int .u64 0] 24)
 have B2 := hid (made_ofC w6 [3, 5] [.int .u64 3, .int .u64 0, .int .u64 0, .int .u64 0, .int .u64 5, .int .u64 0, .int .u64 0, .int .u64 0] rfl (small_wC (by decide)) (by decide))
 replace HTB := hid (HTB.out.later q7)
 replace HS := hid (HS.out.later q7)
 replace QQ := hid (QQ.out.trans (q7.mono QQ.out.size))
 clear q7
 go_wp2_with fail
 refine (do_any _ HTB.out _ [3, 5] 16 (by decide) B2.out (by decide)).mono ?_
 rintro _ w8 ⟨v, rfl, h, q⟩
 replace HTB := hid (HTB.out.later q)
 replace HS := hid (HS.out.later q)
 replace B2 := hid (B2.out.later q)
 replace QQ := hid (QQ.out.trans (q.mono QQ.out.size))
 clear q
 rw [show doE 16 [3, 5] = 0 by decide +kernel]
 replace h := (show WdsAt _ _ [0] from h)
 obtain ⟨aT, cT, rfl, _, _⟩ := h.shape
 have HT := hid h
 clear h
 simp only [List.length_cons, List.length_nil, Nat.zero_add] at HT ⊢
 clear B2
 go_wp2_with fail
 refine (O3.out _).mono ?_
 rintro _ w9 ⟨rfl, q9⟩
 replace HTB := hid (HTB.out.later q9)
 replace HS := hid (HS.out.later q9)
 replace HT := hid (HT.out.later q9)
 replace QQ := hid (QQ.out.trans (q9.mono QQ.out.size))
 clear q9
 go_wp2_with fail
 refine (O5.out _).mono ?_
 rintro _ w10 ⟨rfl, q10⟩
 replace HTB := hid (HTB.out.later q10)
 replace HS := hid (HS.out.later q10)
 replace HT := hid (HT.out.later q10)
 replace QQ := hid (QQ.out.trans (q10.mono QQ.out.size))
 clear q10
 have q11 := newA w10 (.cells #[.int .u64 3, .int .u64 0, .int .u64 0, .int .u64 0, .int .u64 5, .int .u64 0, .int .u64 0, .int .u64 0] 24)
 have B3 := hid (made_ofC w10 [3, 5] [.int .u64 3, .int .u64 0, .int .u64 0, .int .u64 0, .int .u64 5, .int .u64 0, .int .u64 0, .int .u64 0] rfl (small_wC (by decide)) (by decide))
 replace HTB := hid (HTB.out.later q11)
 replace HS := hid (HS.out.later q11)
 replace HT := hid (HT.out.later q11)
 replace QQ := hid (QQ.out.trans (q11.mono QQ.out.size))
 clear q11
 go_wp2_with fail
 refine (do_any _ HTB.out _ [3, 5] 129 (by decide) B3.out (by decide)).mono ?_
 rintro _ w12 ⟨v, rfl, h, q⟩
 replace HTB := hid (HTB.out.later q)
 replace HS := hid (HS.out.later q)
 replace HT := hid (HT.out.later q)
 replace B3 := hid (B3.out.later q)
 replace QQ := hid (QQ.out.trans (q.mono QQ.out.size))
 clear q
 rw [show doE 129 [3, 5] = 0 by decide +kernel]
 replace h := (show WdsAt _ _ [3, 5, 3] from h)
 obtain ⟨aU, cU, rfl, _, _⟩ := h.shape
 have HU := hid h
 clear h
 simp only [List.length_cons, List.length_nil, Nat.zero_add, Nat.reduceAdd] at HU ⊢
 clear B3
 go_wp2_with fail
 refine (O3.out _).mono ?_
 rintro _ w13 ⟨rfl, q13⟩
 replace HTB := hid (HTB.out.later q13)
 replace HS := hid (HS.out.later q13)
 replace HT := hid (HT.out.later q13)
 replace HU := hid (HU.out.later q13)
 replace QQ := hid (QQ.out.trans (q13.mono QQ.out.size))
 clear q13
 go_wp2_with fail
 refine (O5.out _).mono ?_
 rintro _ w14 ⟨rfl, q14⟩
 replace HTB := hid (HTB.out.later q14)
 replace HS := hid (HS.out.later q14)
 replace HT := hid (HT.out.later q14)
 replace HU := hid (HU.out.later q14)
 replace QQ := hid (QQ.out.trans (q14.mono QQ.out.size))
 clear q14
 have q15 := newA w14 (.cells #[.int .u64 3, .int .u64 0, .int .u64 0, .int .u64 0, .int .u64 5, .int .u64 0, .int .u64 0, .int .u64 0] 24)
 have B4 := hid (made_ofC w14 [3, 5] [.int .u64 3, .int .u64 0, .int .u64 0, .int .u64 0, .int .u64 5, .int .u64 0, .int .u64 0, .int .u64 0] rfl (small_wC (by decide)) (by decide))
 replace HTB := hid (HTB.out.later q15)
 replace HS := hid (HS.out.later q15)
 replace HT := hid (HT.out.later q15)
 replace HU := hid (HU.out.later q15)
 replace QQ := hid (QQ.out.trans (q15.mono QQ.out.size))
 clear q15
 go_wp2_with fail
 refine (do_any _ HTB.out _ [3, 5] 80 (by decide) B4.out (by decide)).mono ?_
 rintro _ w16 ⟨v, rfl, h, q⟩
 replace HTB := hid (HTB.out.later q)
 replace HS := hid (HS.out.later q)
 replace HT := hid (HT.out.later q)
 replace HU := hid (HU.out.later q)
 replace B4 := hid (B4.out.later q)
 replace QQ := hid (QQ.out.trans (q.mono QQ.out.size))
 clear q
 rw [show doE 80 [3, 5] = 0 by decide +kernel]
 replace h := (show WdsAt _ _ [3] from h)
 obtain ⟨aV, cV, rfl, _, _⟩ := h.shape
 have HV := hid h
 clear h
 simp only [List.length_cons, List.length_nil, Nat.zero_add] at HV ⊢
 clear B4
 go_wp2_with fail
 refine (O7.out _).mono ?_
 rintro _ w17 ⟨rfl, q17⟩
 replace HTB := hid (HTB.out.later q17)
 replace HS := hid (HS.out.later q17)
 replace HT := hid (HT.out.later q17)
 replace HU := hid (HU.out.later q17)
 replace HV := hid (HV.out.later q17)
 replace QQ := hid (QQ.out.trans (q17.mono QQ.out.size))
 clear q17
 go_wp2_with fail
 refine (O5.out _).mono ?_
 rintro _ w18 ⟨rfl, q18⟩
 replace HTB := hid (HTB.out.later q18)
 replace HS := hid (HS.out.later q18)
 replace HT := hid (HT.out.later q18)
 replace HU := hid (HU.out.later q18)
 replace HV := hid (HV.out.later q18)
 replace QQ := hid (QQ.out.trans (q18.mono QQ.out.size))
 clear q18
 go_wp2_with fail
 refine (O4.out _).mono ?_
 rintro _ w19 ⟨rfl, q19⟩
 replace HTB := hid (HTB.out.later q19)
 replace HS := hid (HS.out.later q19)
 replace HT := hid (HT.out.later q19)
 replace HU := hid (HU.out.later q19)
 replace HV := hid (HV.out.later q19)
 replace QQ := hid (QQ.out.trans (q19.mono QQ.out.size))
 clear q19
 have q20 := newA w19 (.cells #[.int .u64 7, .int .u64 0, .int .u64 0, .int .u64 0, .int .u64 5, .int .u64 0, .int .u64 0, .int .u64 0, .int .u64 4, .int .u64 0, .int .u64 0, .int .u64 0] 24)
 have B5 := hid (made_ofC w19 [7, 5, 4] [.int .u64 7, .int .u64 0, .int .u64 0, .int .u64 0, .int .u64 5, .int .u64 0, .int .u64 0, .int .u64 0, .int .u64 4, .int .u64 0, .int .u64 0, .int .u64 0] rfl (small_wC (by decide)) (by decide))
 replace HTB := hid (HTB.out.later q20)
 replace HS := hid (HS.out.later q20)
 replace HT := hid (HT.out.later q20)
 replace HU := hid (HU.out.later q20)
 replace HV := hid (HV.out.later q20)
 replace QQ := hid (QQ.out.trans (q20.mono QQ.out.size))
 clear q20
 go_wp2_with fail
 refine (do_any _ HTB.out _ [7, 5, 4] 8 (by decide) B5.out (by decide)).mono ?_
 rintro _ w21 ⟨v, rfl, h, q⟩
 replace HTB := hid (HTB.out.later q)
 replace HS := hid (HS.out.later q)
 replace HT := hid (HT.out.later q)
 replace HU := hid (HU.out.later q)
 replace HV := hid (HV.out.later q)
 replace B5 := hid (B5.out.later q)
 replace QQ := hid (QQ.out.trans (q.mono QQ.out.size))
 clear q
 rw [show doE 8 [7, 5, 4] = 0 by decide +kernel]
 replace h := (show WdsAt _ _ [2] from h)
 obtain ⟨aX, cX, rfl, _, _⟩ := h.shape
 have HX := hid h
 clear h
 simp only [List.length_cons, List.length_nil, Nat.zero_add] at HX ⊢
 clear B5
 go_wp2_with fail
 refine (O1.out _).mono ?_
 rintro _ w22 ⟨rfl, q22⟩
 replace HTB := hid (HTB.out.later q22)
 replace HS := hid (HS.out.later q22)
 replace HT := hid (HT.out.later q22)
 replace HU := hid (HU.out.later q22)
 replace HV := hid (HV.out.later q22)
 replace HX := hid (HX.out.later q22)
 replace QQ := hid (QQ.out.trans (q22.mono QQ.out.size))
 clear q22
 have q23 := newA w22 (.cells #[.int .u64 1, .int .u64 0, .int .u64 0, .int .u64 0] 24)
 have B6 := hid (made_ofC w22 [1] [.int .u64 1, .int .u64 0, .int .u64 0, .int .u64 0] rfl (small_wC (by decide)) (by decide))
 replace HTB := hid (HTB.out.later q23)
 replace HS := hid (HS.out.later q23)
 replace HT := hid (HT.out.later q23)
 replace HU := hid (HU.out.later q23)
 replace HV := hid (HV.out.later q23)
 replace HX := hid (HX.out.later q23)
 replace QQ := hid (QQ.out.trans (q23.mono QQ.out.size))
 clear q23
 go_wp2_with fail
 refine (do_any _ HTB.out _ [1] 1 (by decide) B6.out (by decide)).mono ?_
 rintro _ w24 ⟨v, rfl, h, q⟩
 replace HTB := hid (HTB.out.later q)
 replace HS := hid (HS.out.later q)
 replace HT := hid (HT.out.later q)
 replace HU := hid (HU.out.later q)
 replace HV := hid (HV.out.later q)
 replace HX := hid (HX.out.later q)
 replace B6 := hid (B6.out.later q)
 replace QQ := hid (QQ.out.trans (q.mono QQ.out.size))
 clear q
 rw [show doE 1 [1] = 40 by decide +kernel]
 obtain ⟨ax, cx, rfl, _, _⟩ := h.shape
 generalize (doL 1 [1]).length = nx1
 clear h
 clear B6
 go_wp2_with fail
 refine (do_any _ HTB.out _ [] 32 (by decide) (WdsAt.nil _) (by decide)).mono ?_
 rintro _ w25 ⟨v, rfl, h, q⟩
 replace HTB := hid (HTB.out.later q)
 replace HS := hid (HS.out.later q)
 replace HT := hid (HT.out.later q)
 replace HU := hid (HU.out.later q)
 replace HV := hid (HV.out.later q)
 replace HX := hid (HX.out.later q)
 replace QQ := hid (QQ.out.trans (q.mono QQ.out.size))
 clear q
 rw [show doE 32 [] = 42 by decide +kernel]
 obtain ⟨ax, cx, rfl, _, _⟩ := h.shape
 generalize (doL 32 []).length = nx32
 clear h
 go_wp2_with fail
 refine (O2.out _).mono ?_
 rintro _ w26 ⟨rfl, q26⟩
 replace HTB := hid (HTB.out.later q26)
 replace HS := hid (HS.out.later q26)
 replace HT := hid (HT.out.later q26)
 replace HU := hid (HU.out.later q26)
 replace HV := hid (HV.out.later q26)
 replace HX := hid (HX.out.later q26)
 replace QQ := hid (QQ.out.trans (q26.mono QQ.out.size))
 clear q26
 have q27 := newA w26 (.cells #[.int .u64 2, .int .u64 0, .int .u64 0, .int .u64 0] 24)
 have B7 := hid (made_ofC w26 [2] [.int .u64 2, .int .u64 0, .int .u64 0, .int .u64 0] rfl (small_wC (by decide)) (by decide))
 replace HTB := hid (HTB.out.later q27)
 replace HS := hid (HS.out.later q27)
 replace HT := hid (HT.out.later q27)
 replace HU := hid (HU.out.later q27)
 replace HV := hid (HV.out.later q27)
 replace HX := hid (HX.out.later q27)
 replace QQ := hid (QQ.out.trans (q27.mono QQ.out.size))
 clear q27
 go_wp2_with fail
 refine (same_words _ _ _ [2] [2] HS.out B7.out).mono ?_
 rintro _ w28 ⟨rfl, q⟩
 replace HTB := hid (HTB.out.later q)
 replace HS := hid (HS.out.later q)
 replace HT := hid (HT.out.later q)
 replace HU := hid (HU.out.later q)
 replace HV := hid (HV.out.later q)
 replace HX := hid (HX.out.later q)
 replace B7 := hid (B7.out.later q)
 replace QQ := hid (QQ.out.trans (q.mono QQ.out.size))
 clear q
 rw [show decide (([2] : List Nat) = [2]) = true by decide]
 clear B7 HS
 go_wp2_with fail
 refine (O0.out _).mono ?_
 rintro _ w29 ⟨rfl, q29⟩
 replace HTB := hid (HTB.out.later q29)
 replace HT := hid (HT.out.later q29)
 replace HU := hid (HU.out.later q29)
 replace HV := hid (HV.out.later q29)
 replace HX := hid (HX.out.later q29)
 replace QQ := hid (QQ.out.trans (q29.mono QQ.out.size))
 clear q29
 have q30 := newA w29 (.cells #[.int .u64 0, .int .u64 0, .int .u64 0, .int .u64 0] 24)
 have B8 := hid (made_ofC w29 [0] [.int .u64 0, .int .u64 0, .int .u64 0, .int .u64 0] rfl (small_wC (by decide)) (by decide))
 replace HTB := hid (HTB.out.later q30)
 replace HT := hid (HT.out.later q30)
 replace HU := hid (HU.out.later q30)
 replace HV := hid (HV.out.later q30)
 replace HX := hid (HX.out.later q30)
 replace QQ := hid (QQ.out.trans (q30.mono QQ.out.size))
 clear q30
 go_wp2_with fail
 refine (same_words _ _ _ [0] [0] HT.out B8.out).mono ?_
 rintro _ w31 ⟨rfl, q⟩
 replace HTB := hid (HTB.out.later q)
 replace HT := hid (HT.out.later q)
 replace HU := hid (HU.out.later q)
 replace HV := hid (HV.out.later q)
 replace HX := hid (HX.out.later q)
 replace B8 := hid (B8.out.later q)
 replace QQ := hid (QQ.out.trans (q.mono QQ.out.size))
 clear q
 rw [show decide (([0] : List Nat) = [0]) = true by decide]
 clear B8 HT
 go_wp2_with fail
 refine (O3.out _).mono ?_
 rintro _ w32 ⟨rfl, q32⟩
 replace HTB := hid (HTB.out.later q32)
 replace HU := hid (HU.out.later q32)
 replace HV := hid (HV.out.later q32)
 replace HX := hid (HX.out.later q32)
 replace QQ := hid (QQ.out.trans (q32.mono QQ.out.size))
 clear q32
 go_wp2_with fail
 refine (O5.out _).mono ?_
 rintro _ w33 ⟨rfl, q33⟩
 replace HTB := hid (HTB.out.later q33)
 replace HU := hid (HU.out.later q33)
 replace HV := hid (HV.out.later q33)
 replace HX := hid (HX.out.later q33)
 replace QQ := hid (QQ.out.trans (q33.mono QQ.out.size))
 clear q33
 go_wp2_with fail
 refine (O3.out _).mono ?_
 rintro _ w34 ⟨rfl, q34⟩
 replace HTB := hid (HTB.out.later q34)
 replace HU := hid (HU.out.later q34)
 replace HV := hid (HV.out.later q34)
 replace HX := hid (HX.out.later q34)
 replace QQ := hid (QQ.out.trans (q34.mono QQ.out.size))
 clear q34
 have q35 := newA w34 (.cells #[.int .u64 3, .int .u64 0, .int .u64 0, .int .u64 0, .int .u64 5, .int .u64 0, .int .u64 0, .int .u64 0, .int .u64 3, .int .u64 0, .int .u64 0, .int .u64 0] 24)
 have B9 := hid (made_ofC w34 [3, 5, 3] [.int .u64 3, .int .u64 0, .int .u64 0, .int .u64 0, .int .u64 5, .int .u64 0, .int .u64 0, .int .u64 0, .int .u64 3, .int .u64 0, .int .u64 0, .int .u64 0] rfl (small_wC (by decide)) (by decide))
 replace HTB := hid (HTB.out.later q35)
 replace HU := hid (HU.out.later q35)
 replace HV := hid (HV.out.later q35)
 replace HX := hid (HX.out.later q35)
 replace QQ := hid (QQ.out.trans (q35.mono QQ.out.size))
 clear q35
 go_wp2_with fail
 refine (same_words _ _ _ [3, 5, 3] [3, 5, 3] HU.out B9.out).mono ?_
 rintro _ w36 ⟨rfl, q⟩
 replace HTB := hid (HTB.out.later q)
 replace HU := hid (HU.out.later q)
 replace HV := hid (HV.out.later q)
 replace HX := hid (HX.out.later q)
 replace B9 := hid (B9.out.later q)
 replace QQ := hid (QQ.out.trans (q.mono QQ.out.size))
 clear q
 rw [show decide (([3, 5, 3] : List Nat) = [3, 5, 3]) = true by decide]
 clear B9 HU
 go_wp2_with fail
 refine (O3.out _).mono ?_
 rintro _ w37 ⟨rfl, q37⟩
 replace HTB := hid (HTB.out.later q37)
 replace HV := hid (HV.out.later q37)
 replace HX := hid (HX.out.later q37)
 replace QQ := hid (QQ.out.trans (q37.mono QQ.out.size))
 clear q37
 have q38 := newA w37 (.cells #[.int .u64 3, .int .u64 0, .int .u64 0, .int .u64 0] 24)
 have B10 := hid (made_ofC w37 [3] [.int .u64 3, .int .u64 0, .int .u64 0, .int .u64 0] rfl (small_wC (by decide)) (by decide))
 replace HTB := hid (HTB.out.later q38)
 replace HV := hid (HV.out.later q38)
 replace HX := hid (HX.out.later q38)
 replace QQ := hid (QQ.out.trans (q38.mono QQ.out.size))
 clear q38
 go_wp2_with fail
 refine (same_words _ _ _ [3] [3] HV.out B10.out).mono ?_
 rintro _ w39 ⟨rfl, q⟩
 replace HTB := hid (HTB.out.later q)
 replace HV := hid (HV.out.later q)
 replace HX := hid (HX.out.later q)
 replace B10 := hid (B10.out.later q)
 replace QQ := hid (QQ.out.trans (q.mono QQ.out.size))
 clear q
 rw [show decide (([3] : List Nat) = [3]) = true by decide]
 clear B10 HV
 go_wp2_with fail
 refine (O2.out _).mono ?_
 rintro _ w40 ⟨rfl, q40⟩
 replace HTB := hid (HTB.out.later q40)
 replace HX := hid (HX.out.later q40)
 replace QQ := hid (QQ.out.trans (q40.mono QQ.out.size))
 clear q40
 have q41 := newA w40 (.cells #[.int .u64 2, .int .u64 0, .int .u64 0, .int .u64 0] 24)
 have B11 := hid (made_ofC w40 [2] [.int .u64 2, .int .u64 0, .int .u64 0, .int .u64 0] rfl (small_wC (by decide)) (by decide))
 replace HTB := hid (HTB.out.later q41)
 replace HX := hid (HX.out.later q41)
 replace QQ := hid (QQ.out.trans (q41.mono QQ.out.size))
 clear q41
 go_wp2_with fail
 refine (same_words _ _ _ [2] [2] HX.out B11.out).mono ?_
 rintro _ w42 ⟨rfl, q⟩
 replace HTB := hid (HTB.out.later q)
 replace HX := hid (HX.out.later q)
 replace B11 := hid (B11.out.later q)
 replace QQ := hid (QQ.out.trans (q.mono QQ.out.size))
 clear q
 rw [show decide (([2] : List Nat) = [2]) = true by decide]
 clear B11 HX
 go_wp2_with fail
 refine (is_any 29 (by decide) _).mono ?_
 rintro _ w43 ⟨rfl, rfl⟩
 rw [show isOp 29 = true by decide]
 go_wp2_with fail
 refine (is_any 95 (by decide) _).mono ?_
 rintro _ w44 ⟨rfl, rfl⟩
 rw [show isOp 95 = false by decide]
 go_wp2
 go_ret
 exact ⟨rfl, QQ.out⟩
theorem results_wordBC {fn : Func} {t u : Tmp} {tmps : Array Value} {W : World} {B : Nat} {m : Nat → Int} (h : fn.results = #[ResultVar.cell t 24, ResultVar.tmp u]) (ht : tmps.getD t undef = .pointer (some ⟨B, 0, none⟩)) (hA : Has W B 24 #[.int .u64 (m 0), .int .u64 (m 1), .int .u64 (m 2), .int .u64 (m 3)]) :
  (results fn tmps).run Tryz.prog W = .ok (.tuple #[.agg #[.int .u64 (m 0), .int .u64 (m 1), .int .u64 (m 2), .int .u64 (m 3)], tmps.getD u undef]) W := by
 have e0 := hA.cell 0 _ rfl
 have e1 := hA.cell 1 _ rfl
 have e2 := hA.cell 2 _ rfl
 have e3 := hA.cell 3 _ rfl
 simp at ht
 simp [results, h, ht, go_sem, e0, e1, e2, e3]
theorem wds_one {W : World} {v : Value} {x : Nat} (h : WdsAt W v [x]) : ∃ p cp, v = .slice (some p) 1 cp ∧ W.cell? p = some (.int .u64 (lim x 0)) ∧ W.cell? ⟨p.block, p.off + 1, none⟩ = some (.int .u64 (lim x 1)) ∧ W.cell? ⟨p.block, p.off + 2, none⟩ = some (.int .u64 (lim x 2)) ∧ W.cell? ⟨p.block, p.off + 3, none⟩ = some (.int .u64 (lim x 3)) := by
 obtain ⟨a, cap, h1, h2, h3, h4, h5⟩ := h
 obtain ⟨b, rfl, hc⟩ := h5 0 x rfl
 rw [Nat.zero_mul, addr_add0] at hc
 exact ⟨b, cap, h1, hc.four⟩
def topX (op : Nat) (s : List Nat) : Nat := if doE op s = 0 ∧ (doL op s).length = 1 then (doL op s).getD 0 0 else 0
def topB (op : Nat) (s : List Nat) : Bool := decide (doE op s = 0 ∧ (doL op s).length = 1)
theorem top_any16 (W : World) (hT : Tab W) (sv : Value) (s : List Nat) (op : Nat) (ho : op < 256) (hs : WdsAt W sv s) (hk : s.length ≤ 10000) :
  Calls Tryz.prog 17 #[.int .u8 (op : Int), sv] W fun e w' => e = .returned (.tuple #[wv (topX op s), .bool (topB op s)]) ∧ W256 (topX op s) ∧ Below W.heap.size W w' := by
 have q1 := newA W (.cells #[.int .u64 0, .int .u64 0, .int .u64 0, .int .u64 0] 24)
 have R1 := Has.new W 24 #[.int .u64 0, .int .u64 0, .int .u64 0, .int .u64 0]
 have HD := hid (do_any _ (hT.later q1) sv s op ho (hs.later q1) hk)
 obtain ⟨c, hc⟩ : ∃ c, doE op s = c := ⟨_, rfl⟩
 obtain ⟨l, hl⟩ : ∃ l, doL op s = l := ⟨_, rfl⟩
 have HX := hid (show topX op s = if c = 0 ∧ l.length = 1 then l.getD 0 0 else 0 by unfold topX; rw [hc, hl])
 have HB := hid (show topB op s = decide (c = 0 ∧ l.length = 1) by unfold topB; rw [hc, hl])
 rw [hc, hl] at HD
 obtain ⟨a0, cp, hsv, _, _⟩ := hs.shape
 generalize s.length = sn at hsv
 subst hsv
 obtain ⟨W1, hW1⟩ : ∃ W1, W.alloc (.cells #[.int .u64 0, .int .u64 0, .int .u64 0, .int .u64 0] 24) = W1 := ⟨_, rfl⟩
 rw [hW1] at q1 R1 HD
 have Q1 := hid q1
 have HR1 := hid R1
 have HW1 := hid hW1
 obtain ⟨X, hX⟩ : ∃ X, topX op s = X := ⟨_, rfl⟩
 obtain ⟨Y, hY⟩ : ∃ Y, topB op s = Y := ⟨_, rfl⟩
 rw [hX] at HX ⊢
 rw [hY] at HB ⊢
 clear hT hs hk hc hl q1 R1 hW1 hX hY
 go_enter Tryz.func17, Tryz.ntmps17
 go_wp2_with fail
 rw [HW1.out]
 refine HD.out.mono ?_
 rintro _ w2 ⟨v, rfl, h, q⟩
 have R2 := HR1.out.later q
 have HQ2 := hid (Q1.out.trans (q.mono Q1.out.size))
 have HL := hid h
 clear h q HR1 Q1 HD HW1
 have r0 := R2.cell 0 _ rfl
 have r1 := R2.cell 1 _ rfl
 have r2 := R2.cell 2 _ rfl
 have r3 := R2.cell 3 _ rfl
 have z0 := R2.frozen 0
 have z1 := R2.frozen 1
 have z2 := R2.frozen 2
 have z3 := R2.frozen 3
 have HR2 := hid R2
 clear R2
 by_cases hok : c = 0 ∧ l.length = 1
 ·obtain ⟨rfl, hl1⟩ := hok
  match l, hl1, HL, HX, HB with
  | [x], _, HL, HX, HB =>
   obtain ⟨p, cp2, hv, k0, k1, k2, k3⟩ := wds_one HL.out
   subst hv
   have e1 : X = x := HX.out
   have e2 : Y = true := by rw [HB.out]; simp
   subst e1 e2
   have HWX := hid (HL.out.all X (by simp))
   have HR := hid ((((HR2.out.set 0 (.int .u64 (lim X 0))).set 1 (.int .u64 (lim X 1))).set 2 (.int .u64 (lim X 2))).set 3 (.int .u64 (lim X 3)))
   have HQ := hid ((((HQ2.out.setCell (p := ⟨W.heap.size, 0, none⟩) (Nat.le_refl _) (.int .u64 (lim X 0))).setCell (p := ⟨W.heap.size, 1, none⟩) (Nat.le_refl _) (.int .u64 (lim X 1))).setCell (p := ⟨W.heap.size, 2, none⟩) (Nat.le_refl _) (.int .u64 (lim X 2))).setCell (p := ⟨W.heap.size, 3, none⟩) (Nat.le_refl _) (.int .u64 (lim X 3)))
   clear HL HX HB HR2 HQ2
   go_wp2
   refine bodyPost_ret (results_wordBC (m := lim X) rfl rfl HR.out) rfl ⟨rfl, HWX.out, HQ.out⟩
 ·obtain ⟨a1, cp2, hv, _, _⟩ := HL.out.shape
  have e1 : X = 0 := by rw [HX.out, if_neg hok]
  have e2 : Y = false := by rw [HB.out]; simpa using hok
  subst e1 e2
  have hok' : c ≠ 0 ∨ (c = 0 ∧ (l.length : Int) ≠ 1) := by
   by_cases h : c = 0
   ·refine .inr ⟨h, fun e => hok ⟨h, ?_⟩⟩
    omega
   ·exact .inl h
  generalize l.length = n at *
  subst hv
  have HR := hid ((((HR2.out.set 0 (.int .u64 0)).set 1 (.int .u64 0)).set 2 (.int .u64 0)).set 3 (.int .u64 0))
  have HQ := hid ((((HQ2.out.setCell (p := ⟨W.heap.size, 0, none⟩) (Nat.le_refl _) (.int .u64 0)).setCell (p := ⟨W.heap.size, 1, none⟩) (Nat.le_refl _) (.int .u64 0)).setCell (p := ⟨W.heap.size, 2, none⟩) (Nat.le_refl _) (.int .u64 0)).setCell (p := ⟨W.heap.size, 3, none⟩) (Nat.le_refl _) (.int .u64 0))
  clear HL HX HB HR2 HQ2 hok
  rcases hok' with h | ⟨h, h2⟩
  ·go_wp2
   refine bodyPost_ret (results_wordBC (m := fun _ => 0) rfl rfl HR.out) rfl ⟨rfl, by unfold W256; omega, HQ.out⟩
  ·subst h
   go_wp2
   refine bodyPost_ret (results_wordBC (m := fun _ => 0) rfl rfl HR.out) rfl ⟨rfl, by unfold W256; omega, HQ.out⟩
theorem two_is : ∀ op, op < 256 → isTwo op = true → isOp op = true ∧ op < 128 ∧ takesN op = 2 ∧ op ≠ 80 := by decide +kernel
theorem one_is : ∀ op, op < 256 → isOne op = true → isOp op = true ∧ op < 128 ∧ takesN op = 1 ∧ op ≠ 80 := by decide +kernel
theorem three_is : ∀ op, op < 256 → isThree op = true → isOp op = true ∧ op < 128 ∧ takesN op = 3 ∧ op ≠ 80 := by decide +kernel
theorem do_made (op : Nat) (s : List Nat) (ho : op < 128) (hi : isOp op = true) (hn : takesN op ≤ s.length) (hs : s.length ≤ 1024) : doE op s = 0 ∧ doL op s = s.take (s.length - takesN op) ++ madeL op ((List.range (takesN op)).map (nthW s)) := by
 have ha : askN s.length (takesN op) 0 0 = 0 := by
  unfold askN
  rw [if_neg (by omega), if_neg (by omega)]
 unfold doE doL
 rw [hi, if_neg (by decide), if_neg (by omega), if_neg (by omega), if_neg (by decide), if_neg (by omega), if_neg (by omega), ha, if_pos rfl]
 unfold popL popT
 rw [ha, if_pos rfl, if_pos rfl]
 simp
theorem top_of {op : Nat} {s : List Nat} {x : Nat} (h0 : doE op s = 0) (h1 : doL op s = [x]) : topX op s = x ∧ topB op s = true := by
 unfold topX topB
 rw [h0, h1]
 exact ⟨rfl, by simp⟩
theorem top_two (op a b : Nat) (ho : op < 256) (h : isTwo op = true) : topX op [b, a] = twoN op a b ∧ topB op [b, a] = true := by
 obtain ⟨h1, h2, h3, h4⟩ := two_is op ho h
 obtain ⟨e1, e2⟩ := do_made op [b, a] h2 h1 (by rw [h3]; simp) (by simp)
 refine top_of e1 ?_
 rw [e2, h3]
 unfold madeL
 rw [if_neg h4, h3]
 rfl
theorem top_one (op a : Nat) (ho : op < 256) (h : isOne op = true) : topX op [a] = oneN op a ∧ topB op [a] = true := by
 obtain ⟨h1, h2, h3, h4⟩ := one_is op ho h
 obtain ⟨e1, e2⟩ := do_made op [a] h2 h1 (by rw [h3]; simp) (by simp)
 refine top_of e1 ?_
 rw [e2, h3]
 unfold madeL
 rw [if_neg h4, h3]
 rfl
theorem top_three (op a b c : Nat) (ho : op < 256) (h : isThree op = true) : topX op [c, b, a] = threeN op a b c ∧ topB op [c, b, a] = true := by
 obtain ⟨h1, h2, h3, h4⟩ := three_is op ho h
 obtain ⟨e1, e2⟩ := do_made op [c, b, a] h2 h1 (by rw [h3]; simp) (by simp)
 refine top_of e1 ?_
 rw [e2, h3]
 unfold madeL
 rw [if_neg h4, h3]
 rfl
theorem top_call (W : World) (hT : Tab W) (sv : Value) (s : List Nat) (op x : Nat) (ho : op < 256) (hs : WdsAt W sv s) (hk : s.length ≤ 10000) (hx : topX op s = x ∧ topB op s = true) :
  Calls Tryz.prog 17 #[.int .u8 (op : Int), sv] W fun e w' => e = .returned (.tuple #[.agg #[.int .u64 (lim x 0), .int .u64 (lim x 1), .int .u64 (lim x 2), .int .u64 (lim x 3)], .bool true]) ∧ W256 x ∧ Below W.heap.size W w' := by
 have h := top_any16 W hT sv s op ho hs hk
 rw [hx.1, hx.2] at h
 exact h
end
end Go.Proofs.YtnkhmgmganejmaaGreatDoor
