/- Part. -/
import Derived.Test.YtnkhmgmganejmaaGreatDoorT27
import Derived.Test.YtnkhmgmganejmaaGreatDoorT28
set_option maxRecDepth 100000
set_option maxHeartbeats 16000000
namespace Go.Proofs.YtnkhmgmganejmaaGreatDoor
section
open Go Go.RowKit Go.Maps
attribute [local go_sem] Oper.semAt_some Grows wide_fn eq4
theorem sum_b1 : ∀ op, op < 128 → isOp op = true → op ≤ 11 → 1 ≤ op := by decide +kernel
theorem sum_b2 : ∀ op, op < 128 → isOp op = true → op ≠ 80 → ¬ op ≤ 11 → 16 ≤ op ∧ op ≤ 29 := by decide +kernel
theorem sum_b3 : ∀ op, op < 128 → isOp op = true → op ≤ 11 → takesN op = if op = 8 ∨ op = 9 then 3 else 2 := by decide +kernel
theorem sum_b4 : ∀ op, op < 128 → isOp op = true → op ≠ 80 → ¬ op ≤ 11 → takesN op = if op = 21 ∨ op = 25 then 1 else 2 := by decide +kernel
theorem sum_bit (op : Nat) (_ : op < 256) (hi : isOp op = true) (h : op < 128) (h80 : op ≠ 80) : (op ≤ 11 → 1 ≤ op) ∧ (¬ op ≤ 11 → 16 ≤ op ∧ op ≤ 29) ∧ (op ≤ 11 → (takesN op = 3 ↔ op = 8 ∨ op = 9) ∧ takesN op ≠ 1) ∧ (¬ op ≤ 11 → (takesN op = 1 ↔ op = 21 ∨ op = 25) ∧ takesN op ≠ 3) := by
 refine ⟨sum_b1 op h hi, sum_b2 op h hi h80, fun h1 => ?_, fun h1 => ?_⟩
 ·rw [sum_b3 op h hi h1]
  split <;> rename_i h2 <;> simp [h2]
 ·rw [sum_b4 op h hi h80 h1]
  split <;> rename_i h2 <;> simp [h2]
theorem made_sum (op : Nat) (ho : op < 256) (hi : isOp op = true) (h : op < 128) (h80 : op ≠ 80) (hs : op ≤ 11) (t : List Nat) : madeL op t = [sumN op (t.getD 0 0) (t.getD 1 0) (t.getD 2 0)] := by
 obtain ⟨_, _, h3, _⟩ := sum_bit op ho hi h h80
 obtain ⟨h4, h5⟩ := h3 hs
 unfold madeL sumN
 rw [if_neg h80, if_neg h5]
 by_cases h : takesN op = 3
 ·rw [if_pos h, if_pos (h4.1 h)]
 ·rw [if_neg h, if_neg (fun e => h (h4.2 e))]
theorem made_bit (op : Nat) (ho : op < 256) (hi : isOp op = true) (h : op < 128) (h80 : op ≠ 80) (hs : ¬ op ≤ 11) (t : List Nat) : madeL op t = [bitN op (t.getD 0 0) (t.getD 1 0)] := by
 obtain ⟨_, _, _, h3⟩ := sum_bit op ho hi h h80
 obtain ⟨h4, h5⟩ := h3 hs
 unfold madeL bitN
 rw [if_neg h80]
 by_cases h : takesN op = 1
 ·rw [if_pos h, if_pos (h4.1 h)]
 ·rw [if_neg h, if_neg h5, if_neg (fun e => h (h4.2 e))]
theorem app_at (t : List Nat) (i : Nat) (h : i < t.length + 2) : (t ++ [0, 0])[i]? = some (t.getD i 0) := by
 rcases Nat.lt_or_ge i t.length with h1 | h1
 ·rw [List.getElem?_append_left h1, List.getElem?_eq_getElem h1, List.getD_eq_getElem?_getD, List.getElem?_eq_getElem h1]
  rfl
 ·rw [List.getElem?_append_right h1, List.getD_eq_getElem?_getD, List.getElem?_eq_none h1]
  obtain h2 | h2 : i - t.length = 0 ∨ i - t.length = 1 := by omega
  all_goals rw [h2]; rfl
theorem made_zz (w : World) : WdsAt (w.alloc (.cells #[.int .u64 0, .int .u64 0, .int .u64 0, .int .u64 0, .int .u64 0, .int .u64 0, .int .u64 0, .int .u64 0] 24)) (.slice (some ⟨w.heap.size, 0, none⟩) 2 2) [0, 0] :=
 words_made w [0, 0] (by intro z hz; simp at hz; subst hz; unfold W256; omega) (by simp)
theorem ite_w {p : Prop} [Decidable p] {a b : Nat} (ha : W256 a) (hb : W256 b) : W256 (if p then a else b) := by
 split
 ·exact ha
 ·exact hb
theorem twoN_w (op a b : Nat) (ha : W256 a) (hb : W256 b) : W256 (twoN op a b) := by
 unfold twoN
 exact ite_w (wmod_lt _) (ite_w (wmod_lt _) (ite_w (wsub_ltC a b) (ite_w (div_lt a b ha) (ite_w (sgN_lt _ _ (div_lt _ _ (szN_lt a ha))) (ite_w (mod0_lt a b ha) (ite_w (sgN_lt _ _ (mod0_lt _ _ (szN_lt a ha))) (ite_w (wmod_lt _) (ite_w (signN_lt a b hb) (ite_w (truN_lt _) (ite_w (truN_lt _) (ite_w (truN_lt _) (ite_w (truN_lt _) (ite_w (truN_lt _) (ite_w (and_ltC a b ha) (ite_w (or_ltC a b ha hb) (ite_w (xor_ltC a b ha hb) (ite_w (byteV_w a b) (ite_w (wmod_lt _) (ite_w (div_lt b _ hb) (sarN_lt a b hb))))))))))))))))))))
theorem oneN_w (op a : Nat) (ha : W256 a) : W256 (oneN op a) := by
 unfold oneN
 split
 ·exact truN_lt _
 ·exact xor_ltC a _ ha M1_lt
theorem threeN_w (op a b c : Nat) (hc : W256 c) : W256 (threeN op a b c) := by
 unfold threeN
 split
 ·exact modn_lt _ c hc
 ·exact modn_lt _ c hc
theorem sumN_w (op a b c : Nat) (_ : 1 ≤ op ∧ op ≤ 11) (ha : W256 a) (hb : W256 b) (hc : W256 c) : W256 (sumN op a b c) := by
 unfold sumN
 split
 ·exact threeN_w op a b c hc
 ·exact twoN_w op a b ha hb
theorem bitN_w (op a b : Nat) (_ : 16 ≤ op ∧ op ≤ 29) (ha : W256 a) (hb : W256 b) : W256 (bitN op a b) := by
 unfold bitN
 split
 ·exact oneN_w op a ha
 ·exact twoN_w op a b ha hb
theorem rdo_pop (W : World) (sv : Value) (s : List Nat) (op : Nat) (ho : op < 128) (hop : isOp op = true) (hkind : op = 80) (hs : WdsAt W sv s) (hk : s.length ≤ 1024) :
  Calls Tryz.prog 12 #[.int .u8 (op : Int), sv] W (DoP W (if askN s.length (takesN op) 0 0 = 0 then popL s (takesN op) ++ madeL op (popT s (takesN op)) else s) (askN s.length (takesN op) 0 0)) := by
 have hmx : Tryz.prog.follows .mixedOrders = true := by kernel_rfl
 obtain ⟨st, pu, ga, hl⟩ := look_takes op ho hop
 have HI := hid (fun X => rinfo_any X op (by omega))
 rw [hl] at HI
 have HIS := hid (ris_any op (by omega))
 rw [hop] at HIS
 have HS := hid hs
 have hfin := hid (show ∀ v' (w' : World) (c : Int), askN s.length (takesN op) 0 0 = c → c ≠ 0 → WdsAt w' v' s → Below W.heap.size W w' → DoP W (if askN s.length (takesN op) 0 0 = 0 then popL s (takesN op) ++ madeL op (popT s (takesN op)) else s) (askN s.length (takesN op) 0 0) (.returned (.tuple #[v', .int .i64 c])) w' from fun v' w' c h1 h2 h3 h4 => by
  rw [h1, if_neg h2]
  exact ⟨v', rfl, h3, h4⟩)
 have hfin2 := hid (show ∀ v' (w' : World), askN s.length (takesN op) 0 0 = 0 → WdsAt w' v' (popL s (takesN op) ++ madeL op (popT s (takesN op))) → Below W.heap.size W w' → DoP W (if askN s.length (takesN op) 0 0 = 0 then popL s (takesN op) ++ madeL op (popT s (takesN op)) else s) (askN s.length (takesN op) 0 0) (.returned (.tuple #[v', .int .i64 0])) w' from fun v' w' h1 h3 h4 => by
  rw [h1, if_pos rfl]
  exact ⟨v', rfl, h3, h4⟩)
 have HPOP := hid (fun X (hX : Below W.heap.size W X) => rpop_rowQ X sv s (takesN op) (hs.later hX) (by omega))
 have HTL := hid (show askN s.length (takesN op) 0 0 = 0 → (popT s (takesN op)).length = takesN op from fun h => by unfold popT; rw [if_pos h]; simp)
 have HLEN := hid (popL_le s (takesN op) 1024 hk)
 have HTK := hid (show takesN op ≤ 3 ∧ 1 ≤ takesN op by unfold takesN; (repeat' split) <;> omega)
 have HMD := hid (show ∀ t, madeL op t = [] from fun t => by unfold madeL; rw [if_pos hkind])
 obtain ⟨vo, wo, happ0, hrow0, _, hb0⟩ := append_words W W.heap.size (.slice none 0 0) [] (WdRow.nil W _) (Nat.le_refl _) sv s hs (by simp; omega)
 have HB0 := hid hb0
 obtain ⟨Post, hPost⟩ : ∃ Post, DoP W (if askN s.length (takesN op) 0 0 = 0 then popL s (takesN op) ++ madeL op (popT s (takesN op)) else s) (askN s.length (takesN op) 0 0) = Post := ⟨_, rfl⟩
 rw [hPost] at hfin hfin2 ⊢
 obtain ⟨k, hkk⟩ : ∃ k, takesN op = k := ⟨_, rfl⟩
 rw [hkk] at HI HPOP HTL HLEN HTK hfin hfin2
 obtain ⟨c, hc⟩ : ∃ c, askN s.length k 0 0 = c := ⟨_, rfl⟩
 have HC := hid hc
 rw [hc] at HPOP
 obtain ⟨a0, cp, hsv, _, _⟩ := hs.shape
 obtain ⟨sn, hsn⟩ : ∃ sn, s.length = sn := ⟨_, rfl⟩
 have d1 : ¬ (sn : Int) > 1024 := by omega
 have d0 : (0 : Int) ≤ (sn : Int) := by omega
 rw [hsn] at hsv
 subst hsv
 have o0 : (0 : Int) ≤ (op : Int) := by omega
 have o1 : ¬ (op : Int) ≥ 144 := by omega
 have o2 : ¬ (op : Int) ≥ 128 := by omega
 have o3 : (op : Int) < 128 := by omega
 have o5 : ((op : Int) == 80) = true := by rw [hkind]; decide
 clear hPost hkk hc hl hs hk ho hop hkind hsn hrow0 hb0
 go_enter Tryz.func12, Tryz.ntmps12
 go_wp2_with (at_builtin; refine wpList_append_runW rfl (.const (.slice none 0 0)) (.tmp 12) 27 rfl _ _ _ rfl rfl happ0 ?_)
 refine (HIS.out _).mono ?_
 rintro _ wa ⟨rfl, rfl⟩
 clear happ0
 go_wp2_with fail
 refine (HI.out _).mono ?_
 rintro _ w1 ⟨rfl, q1⟩
 have ZI := Has.new w1 37 #[.string ⟨#[]⟩, .int .i64 0, .int .i64 0, .int .i64 0]
 obtain ⟨zi0, zi1, zi2, zi3⟩ := Go.Proofs.YtnkhmgmganejmaaGreatDoor.c4 ZI
 have yi0 := ZI.frozen 0
 have yi1 := ZI.frozen 1
 have yi2 := ZI.frozen 2
 have yi3 := ZI.frozen 3
 have N2 := Has.new w1 37 #[.string st, .int .i64 (k : Int), .int .i64 (pu : Int), .int .i64 (ga : Int)]
 have i1 := N2.cell 1 _ rfl
 have q2 := newA w1 (.cells #[.string st, .int .i64 (k : Int), .int .i64 (pu : Int), .int .i64 (ga : Int)] 37)
 have Q2 := hid (HB0.out.trans ((q1.trans (q2.mono q1.size)).mono HB0.out.size))
 obtain ⟨W2, hW2⟩ : ∃ W2, w1.alloc (.cells #[.string st, .int .i64 (k : Int), .int .i64 (pu : Int), .int .i64 (ga : Int)] 37) = W2 := ⟨_, rfl⟩
 have HW2 := hid hW2
 clear q1 q2 N2 ZI HI hW2
 go_wp2_with fail
 rw [HW2.out] at i1 Q2 ⊢
 refine (HPOP.out _ Q2.out).mono ?_
 rintro _ w3 ⟨rv, tv, m, rfl, hm, hr, ht, hob, q3⟩
 have HR := hid hr
 have HTV := hid ht
 have HOB := hid (And.intro hm hob)
 have Q3 := hid (Q2.out.trans (q3.mono Q2.out.size))
 have HB3 := hid q3.size
 clear i1 zi0 zi1 zi2 zi3 yi0 yi1 yi2 yi3 HW2 hm hob
 obtain ⟨ra, rc, hrv, _, _⟩ := hr.keys.shape
 obtain ⟨ta, tc, htv, _, _⟩ := ht.keys.shape
 generalize (popL s (k : Int)).length = rn at hrv
 subst hrv
 clear hr ht q3
 by_cases h0 : c = 0
 ·subst h0
  have hTL := HTL.out HC.out
  rw [hTL] at htv
  subst htv
  have HF := hid (fun v' w' h => hfin2.out v' w' HC.out h)
  rw [HMD.out, List.append_nil] at HF
  go_wp2
  exact HF.out _ _ HR.out.keys Q3.out
 ·have HF := hid (fun v' w' => hfin.out v' w' c HC.out h0)
  have HPL := hid (show popL s (k : Int) = s by unfold popL; rw [HC.out, if_neg h0])
  generalize (popT s (k : Int)).length = tn at htv
  subst htv
  go_wp2
  exact HF.out _ _ (by rw [← HPL.out]; exact HR.out.keys) Q3.out
theorem rdo_sum (W : World) (sv : Value) (s : List Nat) (op : Nat) (ho : op < 128) (hop : isOp op = true) (hkind : op ≠ 80 ∧ op ≤ 11) (hs : WdsAt W sv s) (hk : s.length ≤ 1024) :
  Calls Tryz.prog 12 #[.int .u8 (op : Int), sv] W (DoP W (if askN s.length (takesN op) 0 0 = 0 then popL s (takesN op) ++ madeL op (popT s (takesN op)) else s) (askN s.length (takesN op) 0 0)) := by
 have hmx : Tryz.prog.follows .mixedOrders = true := by kernel_rfl
 obtain ⟨st, pu, ga, hl⟩ := look_takes op ho hop
 have HI := hid (fun X => rinfo_any X op (by omega))
 rw [hl] at HI
 have HIS := hid (ris_any op (by omega))
 rw [hop] at HIS
 have HS := hid hs
 have hfin := hid (show ∀ v' (w' : World) (c : Int), askN s.length (takesN op) 0 0 = c → c ≠ 0 → WdsAt w' v' s → Below W.heap.size W w' → DoP W (if askN s.length (takesN op) 0 0 = 0 then popL s (takesN op) ++ madeL op (popT s (takesN op)) else s) (askN s.length (takesN op) 0 0) (.returned (.tuple #[v', .int .i64 c])) w' from fun v' w' c h1 h2 h3 h4 => by
  rw [h1, if_neg h2]
  exact ⟨v', rfl, h3, h4⟩)
 have hfin2 := hid (show ∀ v' (w' : World), askN s.length (takesN op) 0 0 = 0 → WdsAt w' v' (popL s (takesN op) ++ madeL op (popT s (takesN op))) → Below W.heap.size W w' → DoP W (if askN s.length (takesN op) 0 0 = 0 then popL s (takesN op) ++ madeL op (popT s (takesN op)) else s) (askN s.length (takesN op) 0 0) (.returned (.tuple #[v', .int .i64 0])) w' from fun v' w' h1 h3 h4 => by
  rw [h1, if_pos rfl]
  exact ⟨v', rfl, h3, h4⟩)
 have HPOP := hid (fun X (hX : Below W.heap.size W X) => rpop_rowQ X sv s (takesN op) (hs.later hX) (by omega))
 have HTL := hid (show askN s.length (takesN op) 0 0 = 0 → (popT s (takesN op)).length = takesN op from fun h => by unfold popT; rw [if_pos h]; simp)
 have HLEN := hid (popL_le s (takesN op) 1024 hk)
 have HTK := hid (show takesN op ≤ 3 ∧ 1 ≤ takesN op by unfold takesN; (repeat' split) <;> omega)
 have HMD := hid (fun t => made_sum op (by omega) hop ho hkind.1 hkind.2 t)
 have HSB := hid (sum_bit op (by omega) hop ho hkind.1)
 have HKD := hid hkind.2
 obtain ⟨vo, wo, happ0, hrow0, _, hb0⟩ := append_words W W.heap.size (.slice none 0 0) [] (WdRow.nil W _) (Nat.le_refl _) sv s hs (by simp; omega)
 have HB0 := hid hb0
 obtain ⟨Post, hPost⟩ : ∃ Post, DoP W (if askN s.length (takesN op) 0 0 = 0 then popL s (takesN op) ++ madeL op (popT s (takesN op)) else s) (askN s.length (takesN op) 0 0) = Post := ⟨_, rfl⟩
 rw [hPost] at hfin hfin2 ⊢
 obtain ⟨k, hkk⟩ : ∃ k, takesN op = k := ⟨_, rfl⟩
 rw [hkk] at HI HPOP HTL HLEN HTK hfin hfin2 HSB
 obtain ⟨c, hc⟩ : ∃ c, askN s.length k 0 0 = c := ⟨_, rfl⟩
 have HC := hid hc
 rw [hc] at HPOP
 obtain ⟨a0, cp, hsv, _, _⟩ := hs.shape
 obtain ⟨sn, hsn⟩ : ∃ sn, s.length = sn := ⟨_, rfl⟩
 have d1 : ¬ (sn : Int) > 1024 := by omega
 have d0 : (0 : Int) ≤ (sn : Int) := by omega
 rw [hsn] at hsv
 subst hsv
 have o0 : (0 : Int) ≤ (op : Int) := by omega
 have o1 : ¬ (op : Int) ≥ 144 := by omega
 have o2 : ¬ (op : Int) ≥ 128 := by omega
 have o3 : (op : Int) < 128 := by omega
 have o4 : ¬ (op : Int) = 80 := by omega
 have o5 : ((op : Int) == 80) = false := by simpa using o4
 have o6 : (op : Int) ≤ 11 := by omega
 clear hPost hkk hc hl hs hk ho hop hkind hsn hrow0 hb0
 go_enter Tryz.func12, Tryz.ntmps12
 go_wp2_with (at_builtin; refine wpList_append_runW rfl (.const (.slice none 0 0)) (.tmp 12) 27 rfl _ _ _ rfl rfl happ0 ?_)
 refine (HIS.out _).mono ?_
 rintro _ wa ⟨rfl, rfl⟩
 clear happ0
 go_wp2_with fail
 refine (HI.out _).mono ?_
 rintro _ w1 ⟨rfl, q1⟩
 have ZI := Has.new w1 37 #[.string ⟨#[]⟩, .int .i64 0, .int .i64 0, .int .i64 0]
 obtain ⟨zi0, zi1, zi2, zi3⟩ := Go.Proofs.YtnkhmgmganejmaaGreatDoor.c4 ZI
 have yi0 := ZI.frozen 0
 have yi1 := ZI.frozen 1
 have yi2 := ZI.frozen 2
 have yi3 := ZI.frozen 3
 have N2 := Has.new w1 37 #[.string st, .int .i64 (k : Int), .int .i64 (pu : Int), .int .i64 (ga : Int)]
 have i1 := N2.cell 1 _ rfl
 have q2 := newA w1 (.cells #[.string st, .int .i64 (k : Int), .int .i64 (pu : Int), .int .i64 (ga : Int)] 37)
 have Q2 := hid (HB0.out.trans ((q1.trans (q2.mono q1.size)).mono HB0.out.size))
 obtain ⟨W2, hW2⟩ : ∃ W2, w1.alloc (.cells #[.string st, .int .i64 (k : Int), .int .i64 (pu : Int), .int .i64 (ga : Int)] 37) = W2 := ⟨_, rfl⟩
 have HW2 := hid hW2
 clear q1 q2 N2 ZI HI hW2
 go_wp2_with fail
 rw [HW2.out] at i1 Q2 ⊢
 refine (HPOP.out _ Q2.out).mono ?_
 rintro _ w3 ⟨rv, tv, m, rfl, hm, hr, ht, hob, q3⟩
 have HR := hid hr
 have HTV := hid ht
 have HOB := hid (And.intro hm hob)
 have Q3 := hid (Q2.out.trans (q3.mono Q2.out.size))
 have HB3 := hid q3.size
 clear i1 zi0 zi1 zi2 zi3 yi0 yi1 yi2 yi3 HW2 hm hob
 obtain ⟨ra, rc, hrv, _, _⟩ := hr.keys.shape
 obtain ⟨ta, tc, htv, _, _⟩ := ht.keys.shape
 generalize (popL s (k : Int)).length = rn at hrv
 subst hrv
 clear hr ht q3
 by_cases h0 : c = 0
 ·subst h0
  have hTL := HTL.out HC.out
  rw [hTL] at htv
  subst htv
  obtain ⟨t, hpt⟩ : ∃ t, popT s (k : Int) = t := ⟨_, rfl⟩
  rw [hpt] at HTV hTL
  have HF := hid (fun v' w' h => hfin2.out v' w' HC.out h)
  rw [hpt, HMD.out t] at HF
  have hk3 := HTK.out
  have hsb := HSB.out
  have S8 := made_zz w3
  have q4 := newA w3 (.cells #[.int .u64 0, .int .u64 0, .int .u64 0, .int .u64 0, .int .u64 0, .int .u64 0, .int .u64 0, .int .u64 0] 24)
  obtain ⟨v4, w4, happ4, hrow4, hgr4, hb4⟩ := append_words _ W2.heap.size _ _ (HTV.out.later q4).1 (Nat.le_trans HB3.out q4.size) _ [0, 0] S8 (by rw [hTL]; simp; omega)
  have HT4 := hid (show WdsAt w4 v4 (t ++ [0, 0]) from hrow4.keys (fun y hy => by
   rcases List.mem_append.1 hy with h | h
   ·exact HTV.out.2 y h
   ·simp at h; subst h; unfold W256; omega))
  have HR4 := hid (show WdB m w4 (.slice ra rn rc) (popL s (k : Int)) from ⟨(HR.out.later q4).1.keptC hgr4 HOB.out.2, HR.out.2⟩)
  have Q4 := hid ((Q3.out.trans (q4.mono Q3.out.size)).trans (hb4.mono Q2.out.size))
  have HR5 := hid (show WdB W2.heap.size w4 (.slice ra rn rc) (popL s (k : Int)) from ⟨HR4.out.1.lower HOB.out.1, HR4.out.2⟩)
  have HB4 := hid (show W2.heap.size ≤ w4.heap.size from Nat.le_trans HB3.out (Nat.le_trans q4.size hgr4.size))
  have ea := app_at t 0 (by rw [hTL]; omega)
  have eb := app_at t 1 (by rw [hTL]; omega)
  have ec := app_at t 2 (by rw [hTL]; omega)
  have Wa := HT4.out.ok ea
  have Wb := HT4.out.ok eb
  have Wc := HT4.out.ok ec
  have HF0 := hid (show W256 (sumN op (t.getD 0 0) (t.getD 1 0) (t.getD 2 0)) from sumN_w op _ _ _ (⟨hsb.1 HKD.out, HKD.out⟩) Wa Wb Wc)
  have HSM := hid (sums_ret op (t.getD 0 0) (t.getD 1 0) (t.getD 2 0) (⟨hsb.1 HKD.out, HKD.out⟩) Wa Wb Wc)
  obtain ⟨z, hz⟩ : ∃ z, sumN op (t.getD 0 0) (t.getD 1 0) (t.getD 2 0) = z := ⟨_, rfl⟩
  rw [hz] at HSM HF HF0
  generalize t.getD 0 0 = a at *
  generalize t.getD 1 0 = b at *
  generalize t.getD 2 0 = c at *
  have HWZ := hid (show W256 z from (HF0.out))
  obtain ⟨b4, n4, c4, hv4, hn4⟩ : ∃ b n cc, v4 = .slice (some b) n cc ∧ 3 ≤ n := by
   obtain ⟨b, hb, _⟩ := HT4.out.shape
   obtain ⟨a1, c1, h1, h2, h3⟩ := HT4.out.shape
   subst h1
   obtain ⟨b, hb, _⟩ := HT4.out.at ea
   subst hb
   exact ⟨b, _, _, rfl, by rw [List.length_append, hTL]; simp only [List.length_cons, List.length_nil]; omega⟩
  subst hv4
  have n0 : (0 : Int) < (n4 : Int) := by omega
  have n1 : (1 : Int) < (n4 : Int) := by omega
  have n2 : (2 : Int) < (n4 : Int) := by omega
  have ca0 : ∀ x : Ext w4, x.w.cell? b4 = some (.int .u64 (lim a 0)) := fun x => by
   have h := (HT4.out.later x.below).at4 ea
   simp only [Nat.zero_mul, Nat.one_mul, Nat.reduceMul, addr_add0] at h
   exact h.1
  have ca1 : ∀ x : Ext w4, x.w.cell? ⟨b4.block, b4.off + 1, none⟩ = some (.int .u64 (lim a 1)) := fun x => by
   have h := (HT4.out.later x.below).at4 ea
   simp only [Nat.zero_mul, Nat.one_mul, Nat.reduceMul, addr_add0] at h
   exact h.2.1
  have ca2 : ∀ x : Ext w4, x.w.cell? ⟨b4.block, b4.off + 2, none⟩ = some (.int .u64 (lim a 2)) := fun x => by
   have h := (HT4.out.later x.below).at4 ea
   simp only [Nat.zero_mul, Nat.one_mul, Nat.reduceMul, addr_add0] at h
   exact h.2.2.1
  have ca3 : ∀ x : Ext w4, x.w.cell? ⟨b4.block, b4.off + 3, none⟩ = some (.int .u64 (lim a 3)) := fun x => by
   have h := (HT4.out.later x.below).at4 ea
   simp only [Nat.zero_mul, Nat.one_mul, Nat.reduceMul, addr_add0] at h
   exact h.2.2.2
  have cb0 : ∀ x : Ext w4, x.w.cell? ⟨b4.block, b4.off + 4, none⟩ = some (.int .u64 (lim b 0)) := fun x => by
   have h := (HT4.out.later x.below).at4 eb
   simp only [Nat.zero_mul, Nat.one_mul, Nat.reduceMul, addr_add0] at h
   exact h.1
  have cb1 : ∀ x : Ext w4, x.w.cell? ⟨b4.block, b4.off + 5, none⟩ = some (.int .u64 (lim b 1)) := fun x => by
   have h := (HT4.out.later x.below).at4 eb
   simp only [Nat.zero_mul, Nat.one_mul, Nat.reduceMul, addr_add0] at h
   exact h.2.1
  have cb2 : ∀ x : Ext w4, x.w.cell? ⟨b4.block, b4.off + 6, none⟩ = some (.int .u64 (lim b 2)) := fun x => by
   have h := (HT4.out.later x.below).at4 eb
   simp only [Nat.zero_mul, Nat.one_mul, Nat.reduceMul, addr_add0] at h
   exact h.2.2.1
  have cb3 : ∀ x : Ext w4, x.w.cell? ⟨b4.block, b4.off + 7, none⟩ = some (.int .u64 (lim b 3)) := fun x => by
   have h := (HT4.out.later x.below).at4 eb
   simp only [Nat.zero_mul, Nat.one_mul, Nat.reduceMul, addr_add0] at h
   exact h.2.2.2
  have cc0 : ∀ x : Ext w4, x.w.cell? ⟨b4.block, b4.off + 8, none⟩ = some (.int .u64 (lim c 0)) := fun x => by
   have h := (HT4.out.later x.below).at4 ec
   simp only [Nat.zero_mul, Nat.one_mul, Nat.reduceMul, addr_add0] at h
   exact h.1
  have cc1 : ∀ x : Ext w4, x.w.cell? ⟨b4.block, b4.off + 9, none⟩ = some (.int .u64 (lim c 1)) := fun x => by
   have h := (HT4.out.later x.below).at4 ec
   simp only [Nat.zero_mul, Nat.one_mul, Nat.reduceMul, addr_add0] at h
   exact h.2.1
  have cc2 : ∀ x : Ext w4, x.w.cell? ⟨b4.block, b4.off + 10, none⟩ = some (.int .u64 (lim c 2)) := fun x => by
   have h := (HT4.out.later x.below).at4 ec
   simp only [Nat.zero_mul, Nat.one_mul, Nat.reduceMul, addr_add0] at h
   exact h.2.2.1
  have cc3 : ∀ x : Ext w4, x.w.cell? ⟨b4.block, b4.off + 11, none⟩ = some (.int .u64 (lim c 3)) := fun x => by
   have h := (HT4.out.later x.below).at4 ec
   simp only [Nat.zero_mul, Nat.one_mul, Nat.reduceMul, addr_add0] at h
   exact h.2.2.2
  clear S8 q4 hrow4 hgr4 hb4 hsb hk3 Wa Wb Wc HTL HMD HSB
  go_wp2_with (at_builtin; refine wpList_append_runW rfl (.tmp 65) (.tmp 68) 27 rfl _ _ _ rfl rfl happ4 ?_)
  clear happ4
  unfold wv at HSM
  refine wp_region_mix (C := Grows w4) [some false, some true, some true, some true, some true, some true, some true, some true, some true, some true, some true, some true, none, none, none, none] hmx (by kernel_rfl) (by kernel_rfl) (grows_refl w4) ?_
  simp only [headOf, tailOf]
  repeat (go_big_quiet_step (first | (with_reducible exact Ret.at HSM.out _)))
  refine wpQuiet_nil ?_
  rintro _ ⟨x, rfl⟩
  clear ca0 ca1 ca2 ca3 cb0 cb1 cb2 cb3 cc0 cc1 cc2 cc3
  have S9 := one_made x.w z HWZ.out
  have q9 := newA x.w (.cells (Go.Proofs.YtnkhmgmganejmaaGreatDoor.w4 (lim z)) 24)
  have q59 := x.below.trans (q9.mono x.below.size)
  obtain ⟨v9, w9, happ9, hrow9, _, hb9⟩ := append_words _ W2.heap.size _ _ (HR5.out.later q59).1 (Nat.le_trans HB4.out q59.size) _ [z] S9 (by have := HLEN.out; simp; omega)
  have HK9 := hid (HF.out v9 w9 (hrow9.keys (fun y hy => (List.mem_append.1 hy).elim (HR5.out.2 y) (fun h => by simp at h; subst h; exact HWZ.out))) ((Q4.out.trans (q59.mono Q4.out.size)).trans (hb9.mono Q2.out.size)))
  clear S9 q9 q59 hrow9 hb9
  go_wp2_with (at_builtin; refine wpList_append_runW rfl (.tmp 72) (.tmp 84) 27 rfl _ _ _ rfl rfl happ9 ?_)
  rw [calmPost_normal]
  go_wp2
  exact HK9.out
 ·have HF := hid (fun v' w' => hfin.out v' w' c HC.out h0)
  have HPL := hid (show popL s (k : Int) = s by unfold popL; rw [HC.out, if_neg h0])
  generalize (popT s (k : Int)).length = tn at htv
  subst htv
  go_wp2
  exact HF.out _ _ (by rw [← HPL.out]; exact HR.out.keys) Q3.out
theorem rdo_bit (W : World) (sv : Value) (s : List Nat) (op : Nat) (ho : op < 128) (hop : isOp op = true) (hkind : op ≠ 80 ∧ ¬ op ≤ 11) (hs : WdsAt W sv s) (hk : s.length ≤ 1024) :
  Calls Tryz.prog 12 #[.int .u8 (op : Int), sv] W (DoP W (if askN s.length (takesN op) 0 0 = 0 then popL s (takesN op) ++ madeL op (popT s (takesN op)) else s) (askN s.length (takesN op) 0 0)) := by
 have hmx : Tryz.prog.follows .mixedOrders = true := by kernel_rfl
 obtain ⟨st, pu, ga, hl⟩ := look_takes op ho hop
 have HI := hid (fun X => rinfo_any X op (by omega))
 rw [hl] at HI
 have HIS := hid (ris_any op (by omega))
 rw [hop] at HIS
 have HS := hid hs
 have hfin := hid (show ∀ v' (w' : World) (c : Int), askN s.length (takesN op) 0 0 = c → c ≠ 0 → WdsAt w' v' s → Below W.heap.size W w' → DoP W (if askN s.length (takesN op) 0 0 = 0 then popL s (takesN op) ++ madeL op (popT s (takesN op)) else s) (askN s.length (takesN op) 0 0) (.returned (.tuple #[v', .int .i64 c])) w' from fun v' w' c h1 h2 h3 h4 => by
  rw [h1, if_neg h2]
  exact ⟨v', rfl, h3, h4⟩)
 have hfin2 := hid (show ∀ v' (w' : World), askN s.length (takesN op) 0 0 = 0 → WdsAt w' v' (popL s (takesN op) ++ madeL op (popT s (takesN op))) → Below W.heap.size W w' → DoP W (if askN s.length (takesN op) 0 0 = 0 then popL s (takesN op) ++ madeL op (popT s (takesN op)) else s) (askN s.length (takesN op) 0 0) (.returned (.tuple #[v', .int .i64 0])) w' from fun v' w' h1 h3 h4 => by
  rw [h1, if_pos rfl]
  exact ⟨v', rfl, h3, h4⟩)
 have HPOP := hid (fun X (hX : Below W.heap.size W X) => rpop_rowQ X sv s (takesN op) (hs.later hX) (by omega))
 have HTL := hid (show askN s.length (takesN op) 0 0 = 0 → (popT s (takesN op)).length = takesN op from fun h => by unfold popT; rw [if_pos h]; simp)
 have HLEN := hid (popL_le s (takesN op) 1024 hk)
 have HTK := hid (show takesN op ≤ 3 ∧ 1 ≤ takesN op by unfold takesN; (repeat' split) <;> omega)
 have HMD := hid (fun t => made_bit op (by omega) hop ho hkind.1 hkind.2 t)
 have HSB := hid (sum_bit op (by omega) hop ho hkind.1)
 have HKD := hid hkind.2
 obtain ⟨vo, wo, happ0, hrow0, _, hb0⟩ := append_words W W.heap.size (.slice none 0 0) [] (WdRow.nil W _) (Nat.le_refl _) sv s hs (by simp; omega)
 have HB0 := hid hb0
 obtain ⟨Post, hPost⟩ : ∃ Post, DoP W (if askN s.length (takesN op) 0 0 = 0 then popL s (takesN op) ++ madeL op (popT s (takesN op)) else s) (askN s.length (takesN op) 0 0) = Post := ⟨_, rfl⟩
 rw [hPost] at hfin hfin2 ⊢
 obtain ⟨k, hkk⟩ : ∃ k, takesN op = k := ⟨_, rfl⟩
 rw [hkk] at HI HPOP HTL HLEN HTK hfin hfin2 HSB
 obtain ⟨c, hc⟩ : ∃ c, askN s.length k 0 0 = c := ⟨_, rfl⟩
 have HC := hid hc
 rw [hc] at HPOP
 obtain ⟨a0, cp, hsv, _, _⟩ := hs.shape
 obtain ⟨sn, hsn⟩ : ∃ sn, s.length = sn := ⟨_, rfl⟩
 have d1 : ¬ (sn : Int) > 1024 := by omega
 have d0 : (0 : Int) ≤ (sn : Int) := by omega
 rw [hsn] at hsv
 subst hsv
 have o0 : (0 : Int) ≤ (op : Int) := by omega
 have o1 : ¬ (op : Int) ≥ 144 := by omega
 have o2 : ¬ (op : Int) ≥ 128 := by omega
 have o3 : (op : Int) < 128 := by omega
 have o4 : ¬ (op : Int) = 80 := by omega
 have o5 : ((op : Int) == 80) = false := by simpa using o4
 have o6 : ¬ (op : Int) ≤ 11 := by omega
 clear hPost hkk hc hl hs hk ho hop hkind hsn hrow0 hb0
 go_enter Tryz.func12, Tryz.ntmps12
 go_wp2_with (at_builtin; refine wpList_append_runW rfl (.const (.slice none 0 0)) (.tmp 12) 27 rfl _ _ _ rfl rfl happ0 ?_)
 refine (HIS.out _).mono ?_
 rintro _ wa ⟨rfl, rfl⟩
 clear happ0
 go_wp2_with fail
 refine (HI.out _).mono ?_
 rintro _ w1 ⟨rfl, q1⟩
 have ZI := Has.new w1 37 #[.string ⟨#[]⟩, .int .i64 0, .int .i64 0, .int .i64 0]
 obtain ⟨zi0, zi1, zi2, zi3⟩ := Go.Proofs.YtnkhmgmganejmaaGreatDoor.c4 ZI
 have yi0 := ZI.frozen 0
 have yi1 := ZI.frozen 1
 have yi2 := ZI.frozen 2
 have yi3 := ZI.frozen 3
 have N2 := Has.new w1 37 #[.string st, .int .i64 (k : Int), .int .i64 (pu : Int), .int .i64 (ga : Int)]
 have i1 := N2.cell 1 _ rfl
 have q2 := newA w1 (.cells #[.string st, .int .i64 (k : Int), .int .i64 (pu : Int), .int .i64 (ga : Int)] 37)
 have Q2 := hid (HB0.out.trans ((q1.trans (q2.mono q1.size)).mono HB0.out.size))
 obtain ⟨W2, hW2⟩ : ∃ W2, w1.alloc (.cells #[.string st, .int .i64 (k : Int), .int .i64 (pu : Int), .int .i64 (ga : Int)] 37) = W2 := ⟨_, rfl⟩
 have HW2 := hid hW2
 clear q1 q2 N2 ZI HI hW2
 go_wp2_with fail
 rw [HW2.out] at i1 Q2 ⊢
 refine (HPOP.out _ Q2.out).mono ?_
 rintro _ w3 ⟨rv, tv, m, rfl, hm, hr, ht, hob, q3⟩
 have HR := hid hr
 have HTV := hid ht
 have HOB := hid (And.intro hm hob)
 have Q3 := hid (Q2.out.trans (q3.mono Q2.out.size))
 have HB3 := hid q3.size
 clear i1 zi0 zi1 zi2 zi3 yi0 yi1 yi2 yi3 HW2 hm hob
 obtain ⟨ra, rc, hrv, _, _⟩ := hr.keys.shape
 obtain ⟨ta, tc, htv, _, _⟩ := ht.keys.shape
 generalize (popL s (k : Int)).length = rn at hrv
 subst hrv
 clear hr ht q3
 by_cases h0 : c = 0
 ·subst h0
  have hTL := HTL.out HC.out
  rw [hTL] at htv
  subst htv
  obtain ⟨t, hpt⟩ : ∃ t, popT s (k : Int) = t := ⟨_, rfl⟩
  rw [hpt] at HTV hTL
  have HF := hid (fun v' w' h => hfin2.out v' w' HC.out h)
  rw [hpt, HMD.out t] at HF
  have hk3 := HTK.out
  have hsb := HSB.out
  have S8 := made_zz w3
  have q4 := newA w3 (.cells #[.int .u64 0, .int .u64 0, .int .u64 0, .int .u64 0, .int .u64 0, .int .u64 0, .int .u64 0, .int .u64 0] 24)
  obtain ⟨v4, w4, happ4, hrow4, hgr4, hb4⟩ := append_words _ W2.heap.size _ _ (HTV.out.later q4).1 (Nat.le_trans HB3.out q4.size) _ [0, 0] S8 (by rw [hTL]; simp; omega)
  have HT4 := hid (show WdsAt w4 v4 (t ++ [0, 0]) from hrow4.keys (fun y hy => by
   rcases List.mem_append.1 hy with h | h
   ·exact HTV.out.2 y h
   ·simp at h; subst h; unfold W256; omega))
  have HR4 := hid (show WdB m w4 (.slice ra rn rc) (popL s (k : Int)) from ⟨(HR.out.later q4).1.keptC hgr4 HOB.out.2, HR.out.2⟩)
  have Q4 := hid ((Q3.out.trans (q4.mono Q3.out.size)).trans (hb4.mono Q2.out.size))
  have HR5 := hid (show WdB W2.heap.size w4 (.slice ra rn rc) (popL s (k : Int)) from ⟨HR4.out.1.lower HOB.out.1, HR4.out.2⟩)
  have HB4 := hid (show W2.heap.size ≤ w4.heap.size from Nat.le_trans HB3.out (Nat.le_trans q4.size hgr4.size))
  have ea := app_at t 0 (by rw [hTL]; omega)
  have eb := app_at t 1 (by rw [hTL]; omega)
  have Wa := HT4.out.ok ea
  have Wb := HT4.out.ok eb
  have HF0 := hid (show W256 (bitN op (t.getD 0 0) (t.getD 1 0) ) from bitN_w op _ _ (hsb.2.1 HKD.out) Wa Wb)
  have HSM := hid (bits_ret op (t.getD 0 0) (t.getD 1 0)  (hsb.2.1 HKD.out) Wa Wb )
  obtain ⟨z, hz⟩ : ∃ z, bitN op (t.getD 0 0) (t.getD 1 0)  = z := ⟨_, rfl⟩
  rw [hz] at HSM HF HF0
  generalize t.getD 0 0 = a at *
  generalize t.getD 1 0 = b at *
  have HWZ := hid (show W256 z from (HF0.out))
  obtain ⟨b4, n4, c4, hv4, hn4⟩ : ∃ b n cc, v4 = .slice (some b) n cc ∧ 2 ≤ n := by
   obtain ⟨b, hb, _⟩ := HT4.out.shape
   obtain ⟨a1, c1, h1, h2, h3⟩ := HT4.out.shape
   subst h1
   obtain ⟨b, hb, _⟩ := HT4.out.at ea
   subst hb
   exact ⟨b, _, _, rfl, by rw [List.length_append, hTL]; simp only [List.length_cons, List.length_nil]; omega⟩
  subst hv4
  have n0 : (0 : Int) < (n4 : Int) := by omega
  have n1 : (1 : Int) < (n4 : Int) := by omega
  have ca0 : ∀ x : Ext w4, x.w.cell? b4 = some (.int .u64 (lim a 0)) := fun x => by
   have h := (HT4.out.later x.below).at4 ea
   simp only [Nat.zero_mul, Nat.one_mul, Nat.reduceMul, addr_add0] at h
   exact h.1
  have ca1 : ∀ x : Ext w4, x.w.cell? ⟨b4.block, b4.off + 1, none⟩ = some (.int .u64 (lim a 1)) := fun x => by
   have h := (HT4.out.later x.below).at4 ea
   simp only [Nat.zero_mul, Nat.one_mul, Nat.reduceMul, addr_add0] at h
   exact h.2.1
  have ca2 : ∀ x : Ext w4, x.w.cell? ⟨b4.block, b4.off + 2, none⟩ = some (.int .u64 (lim a 2)) := fun x => by
   have h := (HT4.out.later x.below).at4 ea
   simp only [Nat.zero_mul, Nat.one_mul, Nat.reduceMul, addr_add0] at h
   exact h.2.2.1
  have ca3 : ∀ x : Ext w4, x.w.cell? ⟨b4.block, b4.off + 3, none⟩ = some (.int .u64 (lim a 3)) := fun x => by
   have h := (HT4.out.later x.below).at4 ea
   simp only [Nat.zero_mul, Nat.one_mul, Nat.reduceMul, addr_add0] at h
   exact h.2.2.2
  have cb0 : ∀ x : Ext w4, x.w.cell? ⟨b4.block, b4.off + 4, none⟩ = some (.int .u64 (lim b 0)) := fun x => by
   have h := (HT4.out.later x.below).at4 eb
   simp only [Nat.zero_mul, Nat.one_mul, Nat.reduceMul, addr_add0] at h
   exact h.1
  have cb1 : ∀ x : Ext w4, x.w.cell? ⟨b4.block, b4.off + 5, none⟩ = some (.int .u64 (lim b 1)) := fun x => by
   have h := (HT4.out.later x.below).at4 eb
   simp only [Nat.zero_mul, Nat.one_mul, Nat.reduceMul, addr_add0] at h
   exact h.2.1
  have cb2 : ∀ x : Ext w4, x.w.cell? ⟨b4.block, b4.off + 6, none⟩ = some (.int .u64 (lim b 2)) := fun x => by
   have h := (HT4.out.later x.below).at4 eb
   simp only [Nat.zero_mul, Nat.one_mul, Nat.reduceMul, addr_add0] at h
   exact h.2.2.1
  have cb3 : ∀ x : Ext w4, x.w.cell? ⟨b4.block, b4.off + 7, none⟩ = some (.int .u64 (lim b 3)) := fun x => by
   have h := (HT4.out.later x.below).at4 eb
   simp only [Nat.zero_mul, Nat.one_mul, Nat.reduceMul, addr_add0] at h
   exact h.2.2.2
  clear S8 q4 hrow4 hgr4 hb4 hsb hk3 Wa Wb HTL HMD HSB
  go_wp2_with (at_builtin; refine wpList_append_runW rfl (.tmp 65) (.tmp 68) 27 rfl _ _ _ rfl rfl happ4 ?_)
  clear happ4
  unfold wv at HSM
  refine wp_region_mix (C := Grows w4) [some false, some true, some true, some true, some true, some true, some true, some true, some true, none, none, none, none] hmx (by kernel_rfl) (by kernel_rfl) (grows_refl w4) ?_
  simp only [headOf, tailOf]
  repeat (go_big_quiet_step (first | (with_reducible exact Ret.at HSM.out _)))
  refine wpQuiet_nil ?_
  rintro _ ⟨x, rfl⟩
  clear ca0 ca1 ca2 ca3 cb0 cb1 cb2 cb3
  have S9 := one_made x.w z HWZ.out
  have q9 := newA x.w (.cells (Go.Proofs.YtnkhmgmganejmaaGreatDoor.w4 (lim z)) 24)
  have q59 := x.below.trans (q9.mono x.below.size)
  obtain ⟨v9, w9, happ9, hrow9, _, hb9⟩ := append_words _ W2.heap.size _ _ (HR5.out.later q59).1 (Nat.le_trans HB4.out q59.size) _ [z] S9 (by have := HLEN.out; simp; omega)
  have HK9 := hid (HF.out v9 w9 (hrow9.keys (fun y hy => (List.mem_append.1 hy).elim (HR5.out.2 y) (fun h => by simp at h; subst h; exact HWZ.out))) ((Q4.out.trans (q59.mono Q4.out.size)).trans (hb9.mono Q2.out.size)))
  clear S9 q9 q59 hrow9 hb9
  go_wp2_with (at_builtin; refine wpList_append_runW rfl (.tmp 86) (.tmp 95) 27 rfl _ _ _ rfl rfl happ9 ?_)
  rw [calmPost_normal]
  go_wp2
  exact HK9.out
 ·have HF := hid (fun v' w' => hfin.out v' w' c HC.out h0)
  have HPL := hid (show popL s (k : Int) = s by unfold popL; rw [HC.out, if_neg h0])
  generalize (popT s (k : Int)).length = tn at htv
  subst htv
  go_wp2
  exact HF.out _ _ (by rw [← HPL.out]; exact HR.out.keys) Q3.out
end
section
open Go Go.RowKit
attribute [local go_sem] Oper.semAt_some Grows wide_fn eq4
theorem made_row (w : World) (l : List Nat) (hl : l.length ≤ 100000) : WdRow (w.alloc (.cells (flatW l).toArray 24)) w.heap.size (.slice (some ⟨w.heap.size, 0, none⟩) l.length l.length) l :=
 ⟨flatW_length l, .inr ⟨w.heap.size, l.length, (flatW l).toArray, rfl, Nat.le_refl _, World.alloc_heap_new w _, Nat.le_refl _, by unfold maxLen; omega, by simp [flatW_length], by simp only [List.toList_toArray]; rw [← flatW_length, List.take_length]⟩⟩
def fromW (a : Option Addr) (cap k : Nat) : Option Addr := if k = cap then a else a.map (fun b => b.add (k * 4))
theorem WdsAt.fromW {W : World} {a : Option Addr} {n cap : Nat} {l : List Nat} (h : WdsAt W (.slice a n cap) l) (k : Nat) (hk : k ≤ n) : WdsAt W (.slice (Go.Proofs.YtnkhmgmganejmaaGreatDoor.fromW a cap k) (n - k) (cap - k)) (l.drop k) := by
 obtain ⟨a', cap', h1, h2, h3, h4, h5⟩ := h
 injection h1 with e1 e2 e3
 subst e1 e3
 refine ⟨_, _, by rw [List.length_drop, e2], by rw [List.length_drop]; omega, by omega, fun x hx => h4 x (List.mem_of_mem_drop hx), fun i x hx => ?_⟩
 rw [List.getElem?_drop] at hx
 have hlt := (List.getElem?_eq_some_iff.1 hx).1
 obtain ⟨b, e, hc⟩ := h5 (k + i) x hx
 refine ⟨b.add (k * 4), ?_, fun j u hj => ?_⟩
 ·unfold Go.Proofs.YtnkhmgmganejmaaGreatDoor.fromW
  rw [if_neg (by omega), e]; rfl
 ·have h := hc j u hj
  rw [Addr.add_add] at h
  rw [Addr.add_add, Addr.add_add, show k * 4 + (i * 4 + j) = (k + i) * 4 + j by omega]
  exact h
theorem rdo_any (W : World) (sv : Value) (s : List Nat) (op : Nat) (ho : op < 256) (hs : WdsAt W sv s) (hk : s.length ≤ 10000) :
  Calls Tryz.prog 12 #[.int .u8 (op : Int), sv] W (DoP W (doL op s) (doE op s)) := by
 by_cases hi : isOp op = true ∧ s.length ≤ 1024 ∧ op < 128
 ·obtain ⟨hi, h1024, h128⟩ := hi
  have hE : doE op s = askN s.length (takesN op) 0 0 := by unfold doE; rw [hi, if_neg (by decide), if_neg (by omega), if_neg (by omega)]
  have hL : doL op s = if askN s.length (takesN op) 0 0 = 0 then popL s (takesN op) ++ madeL op (popT s (takesN op)) else s := by unfold doL; rw [hi, if_neg (by decide), if_neg (by omega), if_neg (by omega)]
  rw [hE, hL]
  by_cases h80 : op = 80
  ·exact rdo_pop W sv s op h128 hi h80 hs h1024
  ·by_cases h11 : op ≤ 11
   ·exact rdo_sum W sv s op h128 hi ⟨h80, h11⟩ hs h1024
   ·exact rdo_bit W sv s op h128 hi ⟨h80, h11⟩ hs h1024
 ·have HIS := hid (ris_any op ho)
  obtain ⟨vo, wo, happ0, hrow0, _, hb0⟩ := append_words W W.heap.size (.slice none 0 0) [] (WdRow.nil W _) (Nat.le_refl _) sv s hs (by simp; omega)
  have HO := hid (show WdsAt wo vo s from hrow0.keys hs.all)
  have HB0 := hid hb0
  have hfin := hid (show ∀ v' (w' : World) (c : Int) (l : List Nat), doE op s = c → doL op s = l → WdsAt w' v' l → Below W.heap.size W w' → DoP W (doL op s) (doE op s) (.returned (.tuple #[v', .int .i64 c])) w' from fun v' w' c l h1 h2 h3 h4 => by subst h1 h2; exact ⟨v', rfl, h3, h4⟩)
  obtain ⟨Post, hPost⟩ : ∃ Post, DoP W (doL op s) (doE op s) = Post := ⟨_, rfl⟩
  rw [hPost] at hfin ⊢
  obtain ⟨a0, cp, hsv, _, _⟩ := hs.shape
  obtain ⟨sn, hsn⟩ : ∃ sn, s.length = sn := ⟨_, rfl⟩
  rw [hsn] at hsv
  subst hsv
  have d0 : (0 : Int) ≤ (sn : Int) := by omega
  have o0 : (0 : Int) ≤ (op : Int) := by omega
  have o9 : (op : Int) < 256 := by omega
  by_cases hio : isOp op = true
  ·rw [hio] at HIS
   by_cases h1024 : s.length ≤ 1024
   ·have h128 : 128 ≤ op := by
     rcases Nat.lt_or_ge op 128 with h | h
     ·exact absurd ⟨hio, h1024, h⟩ hi
     ·exact h
    have d1 : ¬ (sn : Int) > 1024 := by omega
    by_cases h144 : 144 ≤ op
    ·have ek : (op : Int) - 144 + 1 = (op : Int) - 143 := by omega
     have HE := hid (show doE op s = askN s.length ((op : Int) - 143) 1 1 by unfold doE; rw [hio, if_neg (by decide), if_pos h144, ek])
     have HL := hid (show doL op s = swpL s ((op : Int) - 143) by unfold doL; rw [hio, if_neg (by decide), if_pos h144, ek])
     have HSW := hid (fun X (hX : Below W.heap.size W X) => rswap_any X _ s ((op : Int) - 143) (hs.later hX) hk)
     obtain ⟨kk, hkk⟩ : ∃ kk : Int, (op : Int) - 143 = kk := ⟨_, rfl⟩
     rw [hkk] at HE HL HSW
     obtain ⟨dl, hdl⟩ : ∃ dl, swpL s kk = dl := ⟨_, rfl⟩
     obtain ⟨de, hde⟩ : ∃ de, askN s.length kk 1 1 = de := ⟨_, rfl⟩
     rw [hdl] at HL HSW
     rw [hde] at HE HSW
     have c1 : (op : Int) ≥ 144 := by omega
     have k0 : (0 : Int) ≤ kk := by omega
     have k1 : kk < 256 := by omega
     clear hPost hs hk hsn hrow0 hb0 hi hio h1024 h128 h144 ek hdl hde ho
     go_enter Tryz.func12, Tryz.ntmps12
     go_wp2_with (at_builtin; refine wpList_append_runW rfl (.const (.slice none 0 0)) (.tmp 12) 27 rfl _ _ _ rfl rfl happ0 ?_)
     refine (HIS.out _).mono ?_
     rintro _ wa ⟨rfl, rfl⟩
     clear happ0
     go_wp2_with fail
     refine (HSW.out _ HB0.out).mono ?_
     rintro _ w2 ⟨v', rfl, k2, q2⟩
     go_wp2
     exact hfin.out _ _ _ _ HE.out HL.out k2 (HB0.out.trans (q2.mono HB0.out.size))
    ·have ek : (op : Int) - 128 + 1 = (op : Int) - 127 := by omega
     have HE := hid (show doE op s = dupE s ((op : Int) - 127) by unfold doE; rw [hio, if_neg (by decide), if_neg h144, if_pos h128, ek])
     have HL := hid (show doL op s = dupL s ((op : Int) - 127) by unfold doL; rw [hio, if_neg (by decide), if_neg h144, if_pos h128, ek])
     have HSW := hid (fun X (hX : Below W.heap.size W X) => rdup_any X _ s ((op : Int) - 127) (hs.later hX) hk)
     obtain ⟨kk, hkk⟩ : ∃ kk : Int, (op : Int) - 127 = kk := ⟨_, rfl⟩
     rw [hkk] at HE HL HSW
     obtain ⟨dl, hdl⟩ : ∃ dl, dupL s kk = dl := ⟨_, rfl⟩
     obtain ⟨de, hde⟩ : ∃ de, dupE s kk = de := ⟨_, rfl⟩
     rw [hdl] at HL HSW
     rw [hde] at HE HSW
     have c1 : ¬ (op : Int) ≥ 144 := by omega
     have c2 : (op : Int) ≥ 128 := by omega
     have k0 : (0 : Int) ≤ kk := by omega
     have k1 : kk < 256 := by omega
     clear hPost hs hk hsn hrow0 hb0 hi hio h1024 h128 h144 ek hdl hde ho
     go_enter Tryz.func12, Tryz.ntmps12
     go_wp2_with (at_builtin; refine wpList_append_runW rfl (.const (.slice none 0 0)) (.tmp 12) 27 rfl _ _ _ rfl rfl happ0 ?_)
     refine (HIS.out _).mono ?_
     rintro _ wa ⟨rfl, rfl⟩
     clear happ0
     go_wp2_with fail
     refine (HSW.out _ HB0.out).mono ?_
     rintro _ w2 ⟨v', rfl, k2, q2⟩
     go_wp2
     exact hfin.out _ _ _ _ HE.out HL.out k2 (HB0.out.trans (q2.mono HB0.out.size))
   ·have d1 : (sn : Int) > 1024 := by omega
    have ha : ∀ k l b, askN s.length k l b = 1 := fun k l b => by unfold askN; rw [if_pos (.inl (by omega))]
    have HE := hid (show doE op s = 1 by
     unfold doE dupE
     rw [hio, if_neg (by decide)]
     simp only [ha]
     split
     ·rfl
     ·split <;> rfl)
    have HL := hid (show doL op s = s by
     unfold doL swpL dupL
     rw [hio, if_neg (by decide)]
     simp only [ha]
     split
     ·rfl
     ·split <;> rfl)
    clear hPost hs hk hsn hrow0 hb0 hi hio h1024 ha ho
    go_enter Tryz.func12, Tryz.ntmps12
    go_wp2_with (at_builtin; refine wpList_append_runW rfl (.const (.slice none 0 0)) (.tmp 12) 27 rfl _ _ _ rfl rfl happ0 ?_)
    refine (HIS.out _).mono ?_
    rintro _ wa ⟨rfl, rfl⟩
    clear happ0
    go_wp2
    exact hfin.out _ _ _ _ HE.out HL.out HO.out HB0.out
  ·have hf : isOp op = false := by simpa using hio
   rw [hf] at HIS
   have HE := hid (show doE op s = 42 by unfold doE; rw [if_pos hf])
   have HL := hid (show doL op s = s by unfold doL; rw [if_pos hf])
   clear hPost hs hk hsn hrow0 hb0 hi hio hf ho
   go_enter Tryz.func12, Tryz.ntmps12
   go_wp2_with (at_builtin; refine wpList_append_runW rfl (.const (.slice none 0 0)) (.tmp 12) 27 rfl _ _ _ rfl rfl happ0 ?_)
   refine (HIS.out _).mono ?_
   rintro _ wa ⟨rfl, rfl⟩
   clear happ0
   go_wp2
   exact hfin.out _ _ _ _ HE.out HL.out HO.out HB0.out
end
end Go.Proofs.YtnkhmgmganejmaaGreatDoor
