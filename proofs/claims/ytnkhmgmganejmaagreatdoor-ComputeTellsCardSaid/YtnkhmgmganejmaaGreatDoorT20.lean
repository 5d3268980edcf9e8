/- Part. -/
import Derived.Test.YtnkhmgmganejmaaGreatDoorT19
import Derived.Laws.IdiomRangeMap
import Derived.Test.YtnkhmgmganejmaaGreatDoorT18
set_option maxRecDepth 100000
set_option maxHeartbeats 16000000
namespace Go.Proofs.YtnkhmgmganejmaaGreatDoor
section
open Go Go.RowKit Go.Maps
attribute [local go_sem] Oper.semAt_some Grows wide_fn
def RowP (w : World) (f : Nat → Option Inf) (e : Ending) (w' : World) : Prop := ∃ v, e = .returned v ∧ MapV w' v 40 f ∧ (∀ S, v = .map (some S) → w.heap.size ≤ S) ∧ Below w.heap.size w w'
theorem NewB.row {w w' : World} {f : Nat → Option Inf} {e : Ending} (h : NewB w f e w') : RowP w f e w' := by
 obtain ⟨B, n, rfl, hn, hm, h1, hb⟩ := h
 exact ⟨_, rfl, .inr ⟨B, rfl, hm.mono hn⟩, (fun S e => by cases e; exact h1), hb⟩
theorem NewB.congr {w w' : World} {f g : Nat → Option Inf} {e : Ending} (h : NewB w f e w') (hf : ∀ op, op < 256 → f op = g op) : NewB w g e w' := by
 obtain ⟨B, n, rfl, hn, hm, h1, hb⟩ := h
 exact ⟨B, n, rfl, hn, hm.congr hf, h1, hb⟩
theorem row_0 (op : Nat) (ho : op < 256) (hd : op / 16 = 0) (W : World) : Calls Tryz.prog 62 #[.int .u8 (op : Int)] W (RowP W (findI (opRow 0))) := by
 have h0 : (0 : Int) ≤ (op : Int) := by omega
 have h1 : (op : Int) < 256 := by omega
 have h2 : (op : Int) / 16 = 0 := by omega
 clear ho hd
 have HC := hid (reckoning_any W)
 go_enter Tryz.func62, Tryz.ntmps62
 go_wp2_with fail
 refine HC.out.mono ?_
 rintro e w1 h
 obtain ⟨v, rfl, h'⟩ := h.row
 have H := hid h'
 clear h h'
 go_wp2_with fail
 go_ret
 exact ⟨v, rfl, H.out⟩
theorem row_1 (op : Nat) (ho : op < 256) (hd : op / 16 = 1) (W : World) : Calls Tryz.prog 62 #[.int .u8 (op : Int)] W (RowP W (findI (opRow 1))) := by
 have h0 : (0 : Int) ≤ (op : Int) := by omega
 have h1 : (op : Int) < 256 := by omega
 have h2 : (op : Int) / 16 = 1 := by omega
 clear ho hd
 have HC := hid (comparing_any W)
 go_enter Tryz.func62, Tryz.ntmps62
 go_wp2_with fail
 refine HC.out.mono ?_
 rintro e w1 h
 obtain ⟨v, rfl, h'⟩ := h.row
 have H := hid h'
 clear h h'
 go_wp2_with fail
 go_ret
 exact ⟨v, rfl, H.out⟩
theorem row_2 (op : Nat) (ho : op < 256) (hd : op / 16 = 2) (W : World) : Calls Tryz.prog 62 #[.int .u8 (op : Int)] W (RowP W (findI (opRow 2))) := by
 have h0 : (0 : Int) ≤ (op : Int) := by omega
 have h1 : (op : Int) < 256 := by omega
 have h2 : (op : Int) / 16 = 2 := by omega
 clear ho hd
 have hmm := @run_makeMap Tryz.prog
 have hb4 := build4
 unfold tI at hb4
 have hm0 := MapB.made W
 have hb0 := (Below.refl W.heap.size W).alloc (Nat.le_refl _) (.map #[] 0)
 have hs0 : W.heap.size ≤ (W.alloc (.map #[] 0)).heap.size := hb0.size
 go_enter Tryz.func62, Tryz.ntmps62
 go_wp2_with (first | (refine wpList_putMB _ rfl _ _ _ (.inr rfl) _ _ _ rfl hm0 (by omega) 32 ([75, 69, 67, 67, 65, 75, 50, 53, 54], 2, 1, 30) rfl (by decide) rfl ?_; intro w1 h1 g1))
 go_ret
 exact ⟨_, rfl, .inr ⟨_, rfl, (h1.mono (by decide)).congr (by decide +kernel)⟩, (fun S e => by cases e; exact Nat.le_refl _), hb0.grown g1 hs0 (fun k e => by cases e; exact Nat.le_refl _)⟩
theorem row_3 (op : Nat) (ho : op < 256) (hd : op / 16 = 3) (W : World) : Calls Tryz.prog 62 #[.int .u8 (op : Int)] W (RowP W (findI (opRow 3))) := by
 have h0 : (0 : Int) ≤ (op : Int) := by omega
 have h1 : (op : Int) < 256 := by omega
 have h2 : (op : Int) / 16 = 3 := by omega
 clear ho hd
 have HC := hid (asking_any W)
 go_enter Tryz.func62, Tryz.ntmps62
 go_wp2_with fail
 refine HC.out.mono ?_
 rintro e w1 h
 obtain ⟨v, rfl, h'⟩ := h.row
 have H := hid h'
 clear h h'
 go_wp2_with fail
 go_ret
 exact ⟨v, rfl, H.out⟩
theorem row_4 (op : Nat) (ho : op < 256) (hd : op / 16 = 4) (W : World) : Calls Tryz.prog 62 #[.int .u8 (op : Int)] W (RowP W (findI (opRow 4))) := by
 have h0 : (0 : Int) ≤ (op : Int) := by omega
 have h1 : (op : Int) < 256 := by omega
 have h2 : (op : Int) / 16 = 4 := by omega
 clear ho hd
 have HC := hid (askingTheBlock_any W)
 go_enter Tryz.func62, Tryz.ntmps62
 go_wp2_with fail
 refine HC.out.mono ?_
 rintro e w1 h
 obtain ⟨v, rfl, h'⟩ := h.row
 have H := hid h'
 clear h h'
 go_wp2_with fail
 go_ret
 exact ⟨v, rfl, H.out⟩
theorem row_5 (op : Nat) (ho : op < 256) (hd : op / 16 = 5) (W : World) : Calls Tryz.prog 62 #[.int .u8 (op : Int)] W (RowP W (findI (opRow 5))) := by
 have h0 : (0 : Int) ≤ (op : Int) := by omega
 have h1 : (op : Int) < 256 := by omega
 have h2 : (op : Int) / 16 = 5 := by omega
 clear ho hd
 have HC := hid (keeping_any W)
 go_enter Tryz.func62, Tryz.ntmps62
 go_wp2_with fail
 refine HC.out.mono ?_
 rintro e w1 h
 obtain ⟨v, rfl, h'⟩ := h.row
 have H := hid h'
 clear h h'
 go_wp2_with fail
 go_ret
 exact ⟨v, rfl, H.out⟩
theorem row_6 (op : Nat) (ho : op < 256) (hd : op / 16 = 6) (W : World) : Calls Tryz.prog 62 #[.int .u8 (op : Int)] W (RowP W (findI (opRow 6))) := by
 have h0 : (0 : Int) ≤ (op : Int) := by omega
 have h1 : (op : Int) < 256 := by omega
 have h2 : (op : Int) / 16 = 6 := by omega
 clear ho hd
 have HC := hid (numbered_pushing _ rule_pushing 96 [80, 85, 83, 72] 1 16 (by decide) (by decide) (by decide) (by decide) W)
 simp only [Int.cast_ofNat_Int, Int.reduceAdd, Int.reduceSub] at HC
 go_enter Tryz.func62, Tryz.ntmps62
 go_wp2_with fail
 refine HC.out.mono ?_
 rintro e w1 h
 obtain ⟨v, rfl, h'⟩ := (h.congr (g := findI (opRow 6)) (by decide +kernel)).row
 have H := hid h'
 clear h h'
 go_wp2_with fail
 go_ret
 exact ⟨v, rfl, H.out⟩
theorem row_7 (op : Nat) (ho : op < 256) (hd : op / 16 = 7) (W : World) : Calls Tryz.prog 62 #[.int .u8 (op : Int)] W (RowP W (findI (opRow 7))) := by
 have h0 : (0 : Int) ≤ (op : Int) := by omega
 have h1 : (op : Int) < 256 := by omega
 have h2 : (op : Int) / 16 = 7 := by omega
 clear ho hd
 have HC := hid (numbered_pushing _ rule_pushing 112 [80, 85, 83, 72] 17 16 (by decide) (by decide) (by decide) (by decide) W)
 simp only [Int.cast_ofNat_Int, Int.reduceAdd, Int.reduceSub] at HC
 go_enter Tryz.func62, Tryz.ntmps62
 go_wp2_with fail
 refine HC.out.mono ?_
 rintro e w1 h
 obtain ⟨v, rfl, h'⟩ := (h.congr (g := findI (opRow 7)) (by decide +kernel)).row
 have H := hid h'
 clear h h'
 go_wp2_with fail
 go_ret
 exact ⟨v, rfl, H.out⟩
theorem row_8 (op : Nat) (ho : op < 256) (hd : op / 16 = 8) (W : World) : Calls Tryz.prog 62 #[.int .u8 (op : Int)] W (RowP W (findI (opRow 8))) := by
 have h0 : (0 : Int) ≤ (op : Int) := by omega
 have h1 : (op : Int) < 256 := by omega
 have h2 : (op : Int) / 16 = 8 := by omega
 clear ho hd
 have HC := hid (numbered_row1 _ rule_row1 128 [68, 85, 80] 1 16 (by decide) (by decide) (by decide) (by decide) W)
 simp only [Int.cast_ofNat_Int, Int.reduceAdd, Int.reduceSub] at HC
 go_enter Tryz.func62, Tryz.ntmps62
 go_wp2_with fail
 refine HC.out.mono ?_
 rintro e w1 h
 obtain ⟨v, rfl, h'⟩ := (h.congr (g := findI (opRow 8)) (by decide +kernel)).row
 have H := hid h'
 clear h h'
 go_wp2_with fail
 go_ret
 exact ⟨v, rfl, H.out⟩
theorem row_9 (op : Nat) (ho : op < 256) (hd : op / 16 = 9) (W : World) : Calls Tryz.prog 62 #[.int .u8 (op : Int)] W (RowP W (findI (opRow 9))) := by
 have h0 : (0 : Int) ≤ (op : Int) := by omega
 have h1 : (op : Int) < 256 := by omega
 have h2 : (op : Int) / 16 = 9 := by omega
 clear ho hd
 have HC := hid (numbered_row2 _ rule_row2 144 [83, 87, 65, 80] 1 16 (by decide) (by decide) (by decide) (by decide) W)
 simp only [Int.cast_ofNat_Int, Int.reduceAdd, Int.reduceSub] at HC
 go_enter Tryz.func62, Tryz.ntmps62
 go_wp2_with fail
 refine HC.out.mono ?_
 rintro e w1 h
 obtain ⟨v, rfl, h'⟩ := (h.congr (g := findI (opRow 9)) (by decide +kernel)).row
 have H := hid h'
 clear h h'
 go_wp2_with fail
 go_ret
 exact ⟨v, rfl, H.out⟩
theorem row_10 (op : Nat) (ho : op < 256) (hd : op / 16 = 10) (W : World) : Calls Tryz.prog 62 #[.int .u8 (op : Int)] W (RowP W (findI (opRow 10))) := by
 have h0 : (0 : Int) ≤ (op : Int) := by omega
 have h1 : (op : Int) < 256 := by omega
 have h2 : (op : Int) / 16 = 10 := by omega
 clear ho hd
 have HC := hid (numbered_row3 _ rule_row3 160 [76, 79, 71] 0 5 (by decide) (by decide) (by decide) (by decide) W)
 simp only [Int.cast_ofNat_Int, Int.reduceAdd, Int.reduceSub] at HC
 go_enter Tryz.func62, Tryz.ntmps62
 go_wp2_with fail
 refine HC.out.mono ?_
 rintro e w1 h
 obtain ⟨v, rfl, h'⟩ := (h.congr (g := findI (opRow 10)) (by decide +kernel)).row
 have H := hid h'
 clear h h'
 go_wp2_with fail
 go_ret
 exact ⟨v, rfl, H.out⟩
theorem row_11 (op : Nat) (ho : op < 256) (hd : op / 16 = 11) (W : World) : Calls Tryz.prog 62 #[.int .u8 (op : Int)] W (RowP W (findI (opRow 11))) := by
 have h0 : (0 : Int) ≤ (op : Int) := by omega
 have h1 : (op : Int) < 256 := by omega
 have h2 : (op : Int) / 16 = 11 := by omega
 clear ho hd
 go_enter Tryz.func62, Tryz.ntmps62
 go_wp2_with fail
 go_ret
 exact ⟨_, rfl, .inl ⟨rfl, fun _ _ => rfl⟩, (fun S e => by cases e), Below.refl _ _⟩
theorem row_12 (op : Nat) (ho : op < 256) (hd : op / 16 = 12) (W : World) : Calls Tryz.prog 62 #[.int .u8 (op : Int)] W (RowP W (findI (opRow 12))) := by
 have h0 : (0 : Int) ≤ (op : Int) := by omega
 have h1 : (op : Int) < 256 := by omega
 have h2 : (op : Int) / 16 = 12 := by omega
 clear ho hd
 go_enter Tryz.func62, Tryz.ntmps62
 go_wp2_with fail
 go_ret
 exact ⟨_, rfl, .inl ⟨rfl, fun _ _ => rfl⟩, (fun S e => by cases e), Below.refl _ _⟩
theorem row_13 (op : Nat) (ho : op < 256) (hd : op / 16 = 13) (W : World) : Calls Tryz.prog 62 #[.int .u8 (op : Int)] W (RowP W (findI (opRow 13))) := by
 have h0 : (0 : Int) ≤ (op : Int) := by omega
 have h1 : (op : Int) < 256 := by omega
 have h2 : (op : Int) / 16 = 13 := by omega
 clear ho hd
 go_enter Tryz.func62, Tryz.ntmps62
 go_wp2_with fail
 go_ret
 exact ⟨_, rfl, .inl ⟨rfl, fun _ _ => rfl⟩, (fun S e => by cases e), Below.refl _ _⟩
theorem row_14 (op : Nat) (ho : op < 256) (hd : op / 16 = 14) (W : World) : Calls Tryz.prog 62 #[.int .u8 (op : Int)] W (RowP W (findI (opRow 14))) := by
 have h0 : (0 : Int) ≤ (op : Int) := by omega
 have h1 : (op : Int) < 256 := by omega
 have h2 : (op : Int) / 16 = 14 := by omega
 clear ho hd
 go_enter Tryz.func62, Tryz.ntmps62
 go_wp2_with fail
 go_ret
 exact ⟨_, rfl, .inl ⟨rfl, fun _ _ => rfl⟩, (fun S e => by cases e), Below.refl _ _⟩
theorem row_15 (op : Nat) (ho : op < 256) (hd : op / 16 = 15) (W : World) : Calls Tryz.prog 62 #[.int .u8 (op : Int)] W (RowP W (findI (opRow 15))) := by
 have h0 : (0 : Int) ≤ (op : Int) := by omega
 have h1 : (op : Int) < 256 := by omega
 have h2 : (op : Int) / 16 = 15 := by omega
 clear ho hd
 have HC := hid (calling_any W)
 go_enter Tryz.func62, Tryz.ntmps62
 go_wp2_with fail
 refine HC.out.mono ?_
 rintro e w1 h
 obtain ⟨v, rfl, h'⟩ := h.row
 have H := hid h'
 clear h h'
 go_wp2_with fail
 go_ret
 exact ⟨v, rfl, H.out⟩
theorem row_any (op : Nat) (ho : op < 256) (W : World) : Calls Tryz.prog 62 #[.int .u8 (op : Int)] W (RowP W (findI (opRow (op / 16)))) := by
 obtain ⟨d, hd⟩ : ∃ d, op / 16 = d := ⟨_, rfl⟩
 rw [hd]
 match d, hd with
 | 0, hd => exact row_0 op ho hd W
 | 1, hd => exact row_1 op ho hd W
 | 2, hd => exact row_2 op ho hd W
 | 3, hd => exact row_3 op ho hd W
 | 4, hd => exact row_4 op ho hd W
 | 5, hd => exact row_5 op ho hd W
 | 6, hd => exact row_6 op ho hd W
 | 7, hd => exact row_7 op ho hd W
 | 8, hd => exact row_8 op ho hd W
 | 9, hd => exact row_9 op ho hd W
 | 10, hd => exact row_10 op ho hd W
 | 11, hd => exact row_11 op ho hd W
 | 12, hd => exact row_12 op ho hd W
 | 13, hd => exact row_13 op ho hd W
 | 14, hd => exact row_14 op ho hd W
 | 15, hd => exact row_15 op ho hd W
 | d + 16, hd => omega
theorem lookV_parts (f : Nat → Option Inf) (op : Nat) : ∃ (s : ByteArray) (po pu ga : Nat) (b : Bool), lookV f op = .tuple #[.agg #[.string s, .int .i64 (po : Int), .int .i64 (pu : Int), .int .i64 (ga : Int)], .bool b] := by
 obtain ⟨y, hy⟩ : ∃ y, (f op).getD noInf = y := ⟨_, rfl⟩
 obtain ⟨nm, po, pu, ga⟩ := y
 exact ⟨⟨nm.toArray⟩, po, pu, ga, (f op).isSome, by unfold lookV infV; rw [hy]⟩
theorem info_any (op : Nat) (ho : op < 256) (W : World) : Calls Tryz.prog 32 #[.int .u8 (op : Int)] W fun e w' => e = .returned (lookV opI op) ∧ Below W.heap.size W w' := by
 obtain ⟨s, po, pu, ga, b, e⟩ := lookV_parts opI op
 have HE := hid e
 have HF := hid (show lookV (findI (opRow (op / 16))) op = lookV opI op from rfl)
 have HO := hid ho
 clear e ho
 obtain ⟨W1, hW1⟩ : ∃ W1, W.alloc (.cells #[.string ⟨#[]⟩, .int .i64 0, .int .i64 0, .int .i64 0] 37) = W1 := ⟨_, rfl⟩
 have q1 : Below W.heap.size W W1 := hW1 ▸ (Below.refl _ W).alloc (Nat.le_refl _) _
 have n1 : Has W1 W.heap.size 37 #[.string ⟨#[]⟩, .int .i64 0, .int .i64 0, .int .i64 0] := hW1 ▸ Has.new _ _ _
 have Q1 := hid q1
 have N1 := hid n1
 clear q1 n1
 go_enter Tryz.func32, Tryz.ntmps32
 go_wp2_with fail
 refine (row_any op HO.out _).mono ?_
 rintro _ w2 ⟨v, rfl, hv, _, q2⟩
 have N2 := hid (N1.out.later q2)
 have Q2 := hid (Q1.out.trans (q2.mono Q1.out.size))
 have HL := hid (look_any w2 v 40 _ hv op HO.out)
 rw [HF.out, HE.out] at HL
 clear hv q2 hW1 N1
 go_wp2_with fail
 refine HL.out.mono ?_
 rintro _ w3 ⟨rfl, q3⟩
 obtain ⟨W4, hW4⟩ : ∃ W4, w3.alloc (.cells #[.string s, .int .i64 (po : Int), .int .i64 (pu : Int), .int .i64 (ga : Int)] tI) = W4 := ⟨_, rfl⟩
 have q4 : Below w3.heap.size w3 W4 := hW4 ▸ (Below.refl _ w3).alloc (Nat.le_refl _) _
 have m4 : Has W4 w3.heap.size tI #[.string s, .int .i64 (po : Int), .int .i64 (pu : Int), .int .i64 (ga : Int)] := hW4 ▸ Has.new _ _ _
 have n4 := (N2.out.later q3).later q4
 have Q4 := hid (Q2.out.trans ((q3.trans (q4.mono q3.size)).mono Q2.out.size))
 have N4 := hid n4
 obtain ⟨ac0, ac1, ac2, ac3⟩ := c4 n4
 have af0 := n4.frozen 0
 have af1 := n4.frozen 1
 have af2 := n4.frozen 2
 have af3 := n4.frozen 3
 obtain ⟨bc0, bc1, bc2, bc3⟩ := c4 m4
 unfold tI at hW4
 clear q3 q4 m4 n4
 go_wp2_with fail
 rw [HE.out]
 exact bodyPost_ret (results_infB (.inr rfl) rfl rfl rfl ((((N4.out.set 0 _).set 1 _).set 2 _).set 3 _)) rfl ⟨rfl, (((Q4.out.setCell (Nat.le_refl _) _).setCell (Nat.le_refl _) _).setCell (Nat.le_refl _) _).setCell (Nat.le_refl _) _⟩
end
section
open Go Go.RowKit Go.Maps
attribute [local go_sem] Oper.semAt_some Grows wide_fn eq4
theorem is_any (op : Nat) (ho : op < 256) (w : World) : Calls Tryz.prog 14 #[.int .u8 (op : Int)] w fun e w' => e = .returned (.bool (isOp op)) ∧ w' = w := by
 have o0 : (0 : Int) ≤ (op : Int) := by omega
 have key : ((op : Int) < 1 ∧ isOp op = false) ∨ ((1 : Int) ≤ op ∧ (op : Int) ≤ 11 ∧ isOp op = true) ∨ ((11 : Int) < op ∧ (op : Int) < 16 ∧ isOp op = false) ∨ ((16 : Int) ≤ op ∧ (op : Int) ≤ 29 ∧ isOp op = true) ∨ ((29 : Int) < op ∧ (op : Int) < 80 ∧ isOp op = false) ∨ (op = 80 ∧ isOp op = true) ∨ ((80 : Int) < op ∧ (op : Int) < 128 ∧ isOp op = false) ∨ ((128 : Int) ≤ op ∧ (op : Int) ≤ 159 ∧ isOp op = true) ∨ ((159 : Int) < op ∧ isOp op = false) := by
  unfold isOp
  simp only [decide_eq_true_eq, decide_eq_false_iff_not]
  omega
 have HK := hid key
 clear key
 obtain ⟨b, hb⟩ : ∃ b, isOp op = b := ⟨_, rfl⟩
 have HB := hid hb
 rw [hb] at HK ⊢
 clear hb
 rcases HK.out with ⟨h1, rfl⟩ | ⟨h1, h2, rfl⟩ | ⟨h1, h2, rfl⟩ | ⟨h1, h2, rfl⟩ | ⟨h1, h2, rfl⟩ | ⟨rfl, rfl⟩ | ⟨h1, h2, rfl⟩ | ⟨h1, h2, rfl⟩ | ⟨h1, rfl⟩
 ·clear HK HB
  have a0 : ¬ (1 : Int) ≤ (op : Int) := by omega
  have a1 : ¬ (16 : Int) ≤ (op : Int) := by omega
  have a2 : ¬ (128 : Int) ≤ (op : Int) := by omega
  have b0 : (op : Int) ≤ 11 := by omega
  have b1 : (op : Int) ≤ 29 := by omega
  have b2 : (op : Int) ≤ 159 := by omega
  have c0 : ¬ (op : Int) = 80 := by omega
  have c1 : ((op : Int) == 80) = false := by simpa using c0
  go_enter Tryz.func14, Tryz.ntmps14
  go_wp2
  go_ret
  exact ⟨rfl, rfl⟩
 ·clear HK HB
  have a0 : (1 : Int) ≤ (op : Int) := by omega
  have a1 : ¬ (16 : Int) ≤ (op : Int) := by omega
  have a2 : ¬ (128 : Int) ≤ (op : Int) := by omega
  have b0 : (op : Int) ≤ 11 := by omega
  have b1 : (op : Int) ≤ 29 := by omega
  have b2 : (op : Int) ≤ 159 := by omega
  have c0 : ¬ (op : Int) = 80 := by omega
  have c1 : ((op : Int) == 80) = false := by simpa using c0
  go_enter Tryz.func14, Tryz.ntmps14
  go_wp2
  go_ret
  exact ⟨rfl, rfl⟩
 ·clear HK HB
  have a0 : (1 : Int) ≤ (op : Int) := by omega
  have a1 : ¬ (16 : Int) ≤ (op : Int) := by omega
  have a2 : ¬ (128 : Int) ≤ (op : Int) := by omega
  have b0 : ¬ (op : Int) ≤ 11 := by omega
  have b1 : (op : Int) ≤ 29 := by omega
  have b2 : (op : Int) ≤ 159 := by omega
  have c0 : ¬ (op : Int) = 80 := by omega
  have c1 : ((op : Int) == 80) = false := by simpa using c0
  go_enter Tryz.func14, Tryz.ntmps14
  go_wp2
  go_ret
  exact ⟨rfl, rfl⟩
 ·clear HK HB
  have a0 : (1 : Int) ≤ (op : Int) := by omega
  have a1 : (16 : Int) ≤ (op : Int) := by omega
  have a2 : ¬ (128 : Int) ≤ (op : Int) := by omega
  have b0 : ¬ (op : Int) ≤ 11 := by omega
  have b1 : (op : Int) ≤ 29 := by omega
  have b2 : (op : Int) ≤ 159 := by omega
  have c0 : ¬ (op : Int) = 80 := by omega
  have c1 : ((op : Int) == 80) = false := by simpa using c0
  go_enter Tryz.func14, Tryz.ntmps14
  go_wp2
  go_ret
  exact ⟨rfl, rfl⟩
 ·clear HK HB
  have a0 : (1 : Int) ≤ (op : Int) := by omega
  have a1 : (16 : Int) ≤ (op : Int) := by omega
  have a2 : ¬ (128 : Int) ≤ (op : Int) := by omega
  have b0 : ¬ (op : Int) ≤ 11 := by omega
  have b1 : ¬ (op : Int) ≤ 29 := by omega
  have b2 : (op : Int) ≤ 159 := by omega
  have c0 : ¬ (op : Int) = 80 := by omega
  have c1 : ((op : Int) == 80) = false := by simpa using c0
  go_enter Tryz.func14, Tryz.ntmps14
  go_wp2
  go_ret
  exact ⟨rfl, rfl⟩
 ·clear HK HB
  go_enter Tryz.func14, Tryz.ntmps14
  go_wp2
  go_ret
  exact ⟨rfl, rfl⟩
 ·clear HK HB
  have a0 : (1 : Int) ≤ (op : Int) := by omega
  have a1 : (16 : Int) ≤ (op : Int) := by omega
  have a2 : ¬ (128 : Int) ≤ (op : Int) := by omega
  have b0 : ¬ (op : Int) ≤ 11 := by omega
  have b1 : ¬ (op : Int) ≤ 29 := by omega
  have b2 : (op : Int) ≤ 159 := by omega
  have c0 : ¬ (op : Int) = 80 := by omega
  have c1 : ((op : Int) == 80) = false := by simpa using c0
  go_enter Tryz.func14, Tryz.ntmps14
  go_wp2
  go_ret
  exact ⟨rfl, rfl⟩
 ·clear HK HB
  have a0 : (1 : Int) ≤ (op : Int) := by omega
  have a1 : (16 : Int) ≤ (op : Int) := by omega
  have a2 : (128 : Int) ≤ (op : Int) := by omega
  have b0 : ¬ (op : Int) ≤ 11 := by omega
  have b1 : ¬ (op : Int) ≤ 29 := by omega
  have b2 : (op : Int) ≤ 159 := by omega
  have c0 : ¬ (op : Int) = 80 := by omega
  have c1 : ((op : Int) == 80) = false := by simpa using c0
  go_enter Tryz.func14, Tryz.ntmps14
  go_wp2
  go_ret
  exact ⟨rfl, rfl⟩
 ·clear HK HB
  have a0 : (1 : Int) ≤ (op : Int) := by omega
  have a1 : (16 : Int) ≤ (op : Int) := by omega
  have a2 : (128 : Int) ≤ (op : Int) := by omega
  have b0 : ¬ (op : Int) ≤ 11 := by omega
  have b1 : ¬ (op : Int) ≤ 29 := by omega
  have b2 : ¬ (op : Int) ≤ 159 := by omega
  have c0 : ¬ (op : Int) = 80 := by omega
  have c1 : ((op : Int) == 80) = false := by simpa using c0
  go_enter Tryz.func14, Tryz.ntmps14
  go_wp2
  go_ret
  exact ⟨rfl, rfl⟩
theorem takes_info : ∀ op, op < 128 → isOp op = true → (opI op).map (fun x => x.2.1) = some (takesN op) := by decide +kernel
theorem look_takes (op : Nat) (h : op < 128) (hi : isOp op = true) : ∃ (s : ByteArray) (pu ga : Nat), lookV opI op = .tuple #[.agg #[.string s, .int .i64 (takesN op : Int), .int .i64 (pu : Int), .int .i64 (ga : Int)], .bool true] := by
 have := takes_info op h hi
 unfold lookV
 cases hx : opI op with
 | none => rw [hx] at this; cases this
 | some x =>
  rw [hx] at this
  injection this with this
  obtain ⟨s, po, pu, ga⟩ := x
  simp only at this
  subst this
  exact ⟨_, pu, ga, rfl⟩
theorem popL_le (s : List Nat) (k : Int) (n : Nat) (h : s.length ≤ n) : (popL s k).length ≤ n := by
 unfold popL
 split
 ·rw [List.length_take]; omega
 ·exact h
def DoP (W : World) (l : List Nat) (c : Int) (e : Ending) (w' : World) : Prop := ∃ v', e = .returned (.tuple #[v', .int .i64 c]) ∧ WdsAt w' v' l ∧ Below W.heap.size W w'
theorem replace_any (W : World) (hT : Tab W) (sv : Value) (s : List Nat) (op : Nat) (ho : op < 128) (hop : isOp op = true) (hs : WdsAt W sv s) (hk : s.length ≤ 10000) :
  Calls Tryz.prog 21 #[.int .u8 (op : Int), sv] W (DoP W (if askN s.length (takesN op) 0 0 = 0 then popL s (takesN op) ++ madeL op (popT s (takesN op)) else s) (askN s.length (takesN op) 0 0)) := by
 obtain ⟨st, pu, ga, hl⟩ := look_takes op ho hop
 have HI := hid (info_any op (by omega) W)
 rw [hl] at HI
 have HOP := hid (And.intro ho hop)
 have HT := hid hT
 have HS := hid hs
 have HK := hid hk
 have hfin := hid (show ∀ v' (w' : World) (c : Int), askN s.length (takesN op) 0 0 = c → c ≠ 0 → WdsAt w' v' s → Below W.heap.size W w' → DoP W (if askN s.length (takesN op) 0 0 = 0 then popL s (takesN op) ++ madeL op (popT s (takesN op)) else s) (askN s.length (takesN op) 0 0) (.returned (.tuple #[v', .int .i64 c])) w' from fun v' w' c h1 h2 h3 h4 => by
  rw [h1, if_neg h2]
  exact ⟨v', rfl, h3, h4⟩)
 have hfin2 := hid (show ∀ v' (w' : World), askN s.length (takesN op) 0 0 = 0 → WdsAt w' v' (popL s (takesN op) ++ madeL op (popT s (takesN op))) → Below W.heap.size W w' → DoP W (if askN s.length (takesN op) 0 0 = 0 then popL s (takesN op) ++ madeL op (popT s (takesN op)) else s) (askN s.length (takesN op) 0 0) (.returned (.tuple #[v', .int .i64 0])) w' from fun v' w' h1 h3 h4 => by
  rw [h1, if_pos rfl]
  exact ⟨v', rfl, h3, h4⟩)
 have HPOP := hid (fun X (hX : Below W.heap.size W X) => pop_row X sv s (takesN op) (hs.later hX) hk)
 have HTL := hid (show askN s.length (takesN op) 0 0 = 0 → (popT s (takesN op)).length = takesN op from fun h => by unfold popT; rw [if_pos h]; simp)
 have HLEN := hid (show (popL s (takesN op)).length ≤ 10000 ∧ (madeL op (popT s (takesN op))).length ≤ 1 from ⟨popL_le s _ _ hk, by unfold madeL; (repeat' split) <;> simp⟩)
 have HWM := hid (fun X (hX : Below W.heap.size W X) => maker_any X op (by omega) ⟨hop, ho⟩)
 obtain ⟨Post, hPost⟩ : ∃ Post, DoP W (if askN s.length (takesN op) 0 0 = 0 then popL s (takesN op) ++ madeL op (popT s (takesN op)) else s) (askN s.length (takesN op) 0 0) = Post := ⟨_, rfl⟩
 rw [hPost] at hfin hfin2 ⊢
 obtain ⟨k, hkk⟩ : ∃ k, takesN op = k := ⟨_, rfl⟩
 rw [hkk] at HI HPOP HTL HLEN HWM hfin hfin2
 have HKK := hid hkk
 obtain ⟨c, hc⟩ : ∃ c, askN s.length k 0 0 = c := ⟨_, rfl⟩
 have HC := hid hc
 rw [hc] at HPOP
 obtain ⟨a0, cp, hsv, _, _⟩ := hs.shape
 generalize s.length = sn at hsv
 subst hsv
 clear hPost hkk hc hl hT hs hk ho hop
 go_enter Tryz.func21, Tryz.ntmps21
 go_wp2_with fail
 refine HI.out.mono ?_
 rintro _ w1 ⟨rfl, q1⟩
 obtain ⟨W2, hW2⟩ : ∃ W2, w1.alloc (.cells #[.string st, .int .i64 (k : Int), .int .i64 (pu : Int), .int .i64 (ga : Int)] 37) = W2 := ⟨_, rfl⟩
 have q2 : Below w1.heap.size w1 W2 := hW2 ▸ (Below.refl _ w1).alloc (Nat.le_refl _) _
 have N2 : Has W2 w1.heap.size 37 #[.string st, .int .i64 (k : Int), .int .i64 (pu : Int), .int .i64 (ga : Int)] := hW2 ▸ Has.new _ _ _
 have HN2 := hid N2
 have Q2 := hid (q1.trans (q2.mono q1.size))
 have HW2 := hid hW2
 have i1 := N2.cell 1 _ rfl
 rw [← hW2] at i1
 clear hW2 q1 q2 N2 HI
 go_wp2_with fail
 rw [HW2.out] at i1 ⊢
 refine (HPOP.out W2 Q2.out).mono ?_
 rintro _ w3 ⟨rv, tv, rfl, hr, ht, q3⟩
 have HR := hid hr
 have HTV := hid ht
 have HB3 := hid q3.size
 have Q3 := hid (Q2.out.trans (q3.mono Q2.out.size))
 have i3 := (HN2.out.later q3).cell 1 _ rfl
 obtain ⟨ra, rc, hrv, _, _⟩ := hr.keys.shape
 obtain ⟨ta, tc, htv, _, _⟩ := ht.shape
 generalize (popL s (k : Int)).length = rn at hrv
 generalize (popT s (k : Int)).length = tn at htv
 subst hrv
 subst htv
 clear hr ht q3 i1
 by_cases h0 : c = 0
 ·subst h0
  go_wp2_with fail
  refine (HWM.out w3 Q3.out).mono ?_
  rintro _ w4 ⟨fv, rfl, hfv, q4⟩
  obtain ⟨g, cap, rfl, hE, hcall⟩ := hfv
  have HCALL := hid (hcall w4 (Keep.refl _) (HT.out.later (Q3.out.trans (q4.mono Q3.out.size))) _ _ (HTL.out HC.out) (HTV.out.later q4))
  have Q4 := hid (Q3.out.trans (q4.mono Q3.out.size))
  have HR4 := hid (HR.out.later q4)
  have HB4 := hid (Nat.le_trans HB3.out q4.size)
  unfold Go.Proofs.Enters at hE
  clear hcall q4
  go_wp2_with fail
  refine HCALL.out.mono ?_
  rintro _ w5 ⟨mv, rfl, hmv, q5⟩
  obtain ⟨v', w', happ, hrow, _, hbel⟩ := append_words w5 W2.heap.size _ _ (HR4.out.later q5).1 (Nat.le_trans HB4.out q5.size) mv _ hmv (by have := HLEN.out; omega)
  have HF := hid (hfin2.out v' w' HC.out (hrow.keys (fun x hx => (List.mem_append.1 hx).elim (HR4.out.2 x) (hmv.all x))) ((Q4.out.trans (q5.mono Q4.out.size)).trans (hbel.mono (Q2.out.size))))
  clear hmv hrow hbel q5 hE i3
  go_wp2_with (at_builtin; refine wpList_append_runW rfl (.tmp 28) (.tmp 34) 27 rfl _ _ _ rfl rfl happ ?_)
  exact HF.out
 ·have HF := hid (fun v' w' => hfin.out v' w' c HC.out h0)
  have HPL := hid (show popL s (k : Int) = s by unfold popL; rw [HC.out, if_neg h0])
  go_wp2
  exact HF.out _ _ (by rw [← HPL.out]; exact HR.out.keys) Q3.out
theorem do_any (W : World) (hT : Tab W) (sv : Value) (s : List Nat) (op : Nat) (ho : op < 256) (hs : WdsAt W sv s) (hk : s.length ≤ 10000) :
  Calls Tryz.prog 11 #[.int .u8 (op : Int), sv] W (DoP W (doL op s) (doE op s)) := by
 have HIS := hid (is_any op ho W)
 have HC := hid (clone_words' W sv s hs (by omega))
 have o0 : (0 : Int) ≤ (op : Int) := by omega
 have o1 : (op : Int) < 256 := by omega
 have hfin := hid (show ∀ v' (w' : World) (c : Int) (l : List Nat), doE op s = c → doL op s = l → WdsAt w' v' l → Below W.heap.size W w' → DoP W (doL op s) (doE op s) (.returned (.tuple #[v', .int .i64 c])) w' from fun v' w' c l h1 h2 h3 h4 => by subst h1 h2; exact ⟨v', rfl, h3, h4⟩)
 obtain ⟨Post, hPost⟩ : ∃ Post, DoP W (doL op s) (doE op s) = Post := ⟨_, rfl⟩
 rw [hPost] at hfin ⊢
 clear hPost
 obtain ⟨a0, cp, hsv, _, _⟩ := hs.shape
 by_cases hi : isOp op = true
 ·rw [hi] at HIS
  by_cases h1 : 144 ≤ op
  ·have HSW := hid (swap_any W sv s ((op : Int) - 144 + 1) hs hk)
   have HE := hid (show doE op s = askN s.length ((op : Int) - 144 + 1) 1 1 by unfold doE; rw [hi, if_neg (by decide), if_pos h1])
   have HL := hid (show doL op s = swpL s ((op : Int) - 144 + 1) by unfold doL; rw [hi, if_neg (by decide), if_pos h1])
   have c1 : (144 : Int) ≤ (op : Int) := by omega
   have c2 : (0 : Int) ≤ (op : Int) - 144 := by omega
   have c3 : (op : Int) - 144 < 256 := by omega
   obtain ⟨dl, hdl⟩ : ∃ dl, (swpL s ((op : Int) - 144 + 1)) = dl := ⟨_, rfl⟩
   rw [hdl] at HSW HL
   obtain ⟨de, hde⟩ : ∃ de, (askN s.length ((op : Int) - 144 + 1) 1 1) = de := ⟨_, rfl⟩
   rw [hde] at HSW HE
   clear hdl hde
   clear HC hi hs hk h1 hT ho
   generalize s.length = sn at hsv
   subst hsv
   go_enter Tryz.func11, Tryz.ntmps11
   go_wp2_with fail
   refine HIS.out.mono ?_
   rintro _ w1 ⟨rfl, rfl⟩
   go_wp2_with fail
   refine HSW.out.mono ?_
   rintro _ w2 ⟨v', rfl, k2, q2⟩
   go_wp2
   exact hfin.out _ _ _ _ HE.out HL.out k2 q2
  ·by_cases h2 : 128 ≤ op
   ·have HSW := hid (dup_any W sv s ((op : Int) - 128 + 1) hs hk)
    have HE := hid (show doE op s = dupE s ((op : Int) - 128 + 1) by unfold doE; rw [hi, if_neg (by decide), if_neg h1, if_pos h2])
    have HL := hid (show doL op s = dupL s ((op : Int) - 128 + 1) by unfold doL; rw [hi, if_neg (by decide), if_neg h1, if_pos h2])
    have c1 : ¬ (144 : Int) ≤ (op : Int) := by omega
    have c6 : (128 : Int) ≤ (op : Int) := by omega
    have c2 : (0 : Int) ≤ (op : Int) - 128 := by omega
    have c3 : (op : Int) - 128 < 256 := by omega
    obtain ⟨dl, hdl⟩ : ∃ dl, (dupL s ((op : Int) - 128 + 1)) = dl := ⟨_, rfl⟩
    rw [hdl] at HSW HL
    obtain ⟨de, hde⟩ : ∃ de, (dupE s ((op : Int) - 128 + 1)) = de := ⟨_, rfl⟩
    rw [hde] at HSW HE
    clear hdl hde
    clear HC hi hs hk h1 h2 hT ho
    generalize s.length = sn at hsv
    subst hsv
    go_enter Tryz.func11, Tryz.ntmps11
    go_wp2_with fail
    refine HIS.out.mono ?_
    rintro _ w1 ⟨rfl, rfl⟩
    go_wp2_with fail
    refine HSW.out.mono ?_
    rintro _ w2 ⟨v', rfl, k2, q2⟩
    go_wp2
    exact hfin.out _ _ _ _ HE.out HL.out k2 q2
   ·have HSW := hid (replace_any W hT sv s op (by omega) hi hs hk)
    have HE := hid (show doE op s = askN s.length (takesN op) 0 0 by unfold doE; rw [hi, if_neg (by decide), if_neg h1, if_neg h2])
    have HL := hid (show doL op s = if askN s.length (takesN op) 0 0 = 0 then popL s (takesN op) ++ madeL op (popT s (takesN op)) else s by unfold doL; rw [hi, if_neg (by decide), if_neg h1, if_neg h2])
    have c1 : ¬ (144 : Int) ≤ (op : Int) := by omega
    have c6 : ¬ (128 : Int) ≤ (op : Int) := by omega
    obtain ⟨dl, hdl⟩ : ∃ dl, (if askN s.length (takesN op) 0 0 = 0 then popL s (takesN op) ++ madeL op (popT s (takesN op)) else s) = dl := ⟨_, rfl⟩
    rw [hdl] at HSW HL
    obtain ⟨de, hde⟩ : ∃ de, (askN s.length (takesN op) 0 0) = de := ⟨_, rfl⟩
    rw [hde] at HSW HE
    clear hdl hde
    clear HC hi hs hk h1 h2 hT ho
    generalize s.length = sn at hsv
    subst hsv
    go_enter Tryz.func11, Tryz.ntmps11
    go_wp2_with fail
    refine HIS.out.mono ?_
    rintro _ w1 ⟨rfl, rfl⟩
    go_wp2_with fail
    refine HSW.out.mono ?_
    rintro _ w2 ⟨v', rfl, k2, q2⟩
    go_wp2
    exact hfin.out _ _ _ _ HE.out HL.out k2 q2
 ·have hf : isOp op = false := by simpa using hi
  rw [hf] at HIS
  have HSW := hid (clone_words' W sv s hs (by omega))
  have HE := hid (show doE op s = 42 by unfold doE; rw [if_pos hf])
  have HL := hid (show doL op s = s by unfold doL; rw [if_pos hf])
  clear hi hf hs hk hT ho
  generalize s.length = sn at hsv
  subst hsv
  go_enter Tryz.func11, Tryz.ntmps11
  go_wp2_with fail
  refine HIS.out.mono ?_
  rintro _ w1 ⟨rfl, rfl⟩
  go_wp2_with fail
  refine HSW.out.mono ?_
  rintro _ w2 ⟨v', rfl, k2, q2⟩
  go_wp2
  exact hfin.out _ _ _ _ HE.out HL.out k2 q2
end
end Go.Proofs.YtnkhmgmganejmaaGreatDoor
