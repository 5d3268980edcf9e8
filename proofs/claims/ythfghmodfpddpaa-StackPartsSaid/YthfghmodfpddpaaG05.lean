/- Part. -/
import Derived.Test.YthfghmodfpddpaaG04
import Derived.Test.YthfghmodfpddpaaRows
import Derived.ProofKit
import Derived.LaidMore
import Derived.OpenShut
import Derived.Stop.Joined
import Derived.ChangeSame
import Derived.Below
import Derived.Deep.Slices
import Derived.ReadAgain
import Derived.Carry
import Derived.Test.YthfghmodfpddpaaG02
set_option maxRecDepth 100000
set_option maxHeartbeats 16000000
namespace Go.Proofs.Ythfghmodfpddpaa
section
open Go Go.RowKit
attribute [local go_sem] Oper.semAt_some Grows wide_fn eq4
theorem push_word (A : World) (base : Nat) (v : Value) (l : List Nat) (h : WdRow A base v l) (hb : base ≤ A.heap.size) (hl : l.length ≤ 99999) (y : Nat) (hy : W256 y) :
  ∃ v' w', (Builtin.append_ #[27, 27] 27 #[v, .slice (some ⟨A.heap.size, 0, none⟩) 1 1]).run Try.prog (A.alloc (.cells #[.int .u64 (lim y 0), .int .u64 (lim y 1), .int .u64 (lim y 2), .int .u64 (lim y 3)] 25)) = .ok v' w' ∧ WdRow w' base v' (l ++ [y]) ∧ Below base A w' := by
 have hm := one_made A y hy
 have qa := newA A (.cells #[.int .u64 (lim y 0), .int .u64 (lim y 1), .int .u64 (lim y 2), .int .u64 (lim y 3)] 25)
 obtain ⟨v', w', h1, h2, _, h4⟩ := append_words _ base v l (h.later qa) (Nat.le_trans hb qa.size) _ [y] hm (by simp; omega)
 exact ⟨v', w', h1, h2, (qa.mono hb).trans h4⟩
theorem rswap_any (W : World) (sv : Value) (s : List Nat) (k : Int) (hs : WdsAt W sv s) (hk : s.length ≤ 10000) :
  Calls Try.prog 16 #[sv, .int .i64 k] W (StkP W (swpL s k) (askN s.length k 1 1)) := by
 have hfin := hid (show ∀ v' (w' : World) (c : Int), askN s.length k 1 1 = c → c ≠ 0 → WdsAt w' v' s → Below W.heap.size W w' → StkP W (swpL s k) (askN s.length k 1 1) (.returned (.tuple #[v', .int .i64 c])) w' from fun v' w' c h1 h2 h3 h4 => by
  unfold swpL
  rw [h1, if_neg h2]
  exact ⟨v', rfl, h3, h4⟩)
 have hfin2 := hid (show ∀ v' (w' : World), askN s.length k 1 1 = 0 → WdsAt w' v' ((s.set (s.length - 1) (s.getD (s.length - 1 - k.toNat) 0)).set (s.length - 1 - k.toNat) (s.getD (s.length - 1) 0)) → Below W.heap.size W w' → StkP W (swpL s k) (askN s.length k 1 1) (.returned (.tuple #[v', .int .i64 0])) w' from fun v' w' h1 h3 h4 => by
  unfold swpL
  rw [h1, if_pos rfl]
  exact ⟨v', rfl, h3, h4⟩)
 obtain ⟨Post, hPost⟩ : ∃ Post, StkP W (swpL s k) (askN s.length k 1 1) = Post := ⟨_, rfl⟩
 rw [hPost] at hfin hfin2 ⊢
 clear hPost
 obtain ⟨a, ca, rfl, _, _⟩ := hs.shape
 have HS := hid hs
 have HALL := hid hs.all
 have HO := hid (own_words W _ s hs (by omega))
 have HC := hid (own_words' W _ s hs (by omega))
 have HAN := hid (show askN s.length k 1 1 = if 1024 < s.length ∨ k < 1 then 1 else if (s.length : Int) - 1 < k then 40 else 0 from rfl)
 have h0 : (0 : Int) ≤ (s.length : Int) := by omega
 have h1 : (s.length : Int) ≤ 10000 := by omega
 clear hs
 by_cases c0 : askN s.length k 1 1 = 0
 ·obtain ⟨g1, g2, g3⟩ := ask_ok c0
  obtain ⟨i, hi⟩ : ∃ i : Nat, s.length - 1 = i := ⟨_, rfl⟩
  obtain ⟨j, hj⟩ : ∃ j : Nat, s.length - 1 - k.toNat = j := ⟨_, rfl⟩
  have HXY := hid (And.intro (getD_at (s := s) (i := i) (by omega)) (getD_at (s := s) (i := j) (by omega)))
  have e1 : (s.length : Int) - 1 = (i : Int) := by omega
  have e2 : (i : Int) - k = (j : Int) := by omega
  have HIJ := hid (show i < s.length ∧ j < s.length ∧ 0 < s.length ∧ i ≠ j from ⟨by omega, by omega, by omega, by omega⟩)
  rw [hj, hi] at hfin2
  have H0 := hid c0
  have d1 : ¬ (s.length : Int) > 1024 := by omega
  have d2 : ¬ k < 1 := by omega
  have d3 : ¬ k ≥ (s.length : Int) := by omega
  have i0 : (0 : Int) ≤ (i : Int) := by omega
  have i1 : (i : Int) < (s.length : Int) := by omega
  have ib : (i : Int) ≤ 10000 := by omega
  have j0 : (0 : Int) ≤ (j : Int) := by omega
  have j1 : (j : Int) < (s.length : Int) := by omega
  have jb : (j : Int) ≤ 10000 := by omega
  have kb : k ≤ 10000 := by omega
  have k0 : 0 ≤ k := by omega
  clear c0 hfin HC hi hj g1 g2 g3 HAN
  generalize s.getD i 0 = x at *
  generalize s.getD j 0 = y at *
  obtain ⟨n, hn⟩ : ∃ n, s.length = n := ⟨_, rfl⟩
  have HN := hid hn
  rw [hn] at HO HS e1 i1 j1 d1 d3 h0 h1 ⊢
  clear hn hk
  obtain ⟨b, hb, _⟩ := HS.out.at HXY.out.1
  subst hb
  have hp0 : ∀ g : Nat, (⟨g, 0, none⟩ : Addr).add (i * 4) = ⟨g, i * 4, none⟩ := fun g => by rw [Addr.add_mid, Nat.zero_add]
  have hp1 : ∀ g : Nat, (⟨g, 0, none⟩ : Addr).add (j * 4) = ⟨g, j * 4, none⟩ := fun g => by rw [Addr.add_mid, Nat.zero_add]
  have HLI := hid (show ∀ z : World, Below W.heap.size W z → (loadVar 25 (b.add (i * 4))).run Try.prog z = .ok (.agg (wdL x).toArray) z from fun z hz => ((HS.out.later hz).in HXY.out.1).load)
  have HLJ := hid (show ∀ z : World, Below W.heap.size W z → (loadVar 25 (b.add (j * 4))).run Try.prog z = .ok (.agg (wdL y).toArray) z from fun z hz => ((HS.out.later hz).in HXY.out.2).load)
  have HZ := hid (show (wdL x).toArray.toList = wdL x ∧ (wdL y).toArray.toList = wdL y from ⟨rfl, rfl⟩)
  have hix : (Try.prog.info? 25).map (·.size) = some (wdL x).toArray.size := infoWs
  have hiy : (Try.prog.info? 25).map (·.size) = some (wdL y).toArray.size := infoWs
  have hox : (wdL x).toArray.all (·.oneCell') = true := all_oneCell_toArray (wdL_one x)
  have hoy : (wdL y).toArray.all (·.oneCell') = true := all_oneCell_toArray (wdL_one y)
  have hsx : (wdL x).toArray.size = 4 := rfl
  have hsy : (wdL y).toArray.size = 4 := rfl
  generalize (wdL x).toArray = cx at *
  generalize (wdL y).toArray = cy at *
  go_enter Try.func16, Try.ntmps16
  go_wp2_with fail
  refine HO.out.mono ?_
  rintro e w0 ⟨v0, rfl, r0, q0⟩
  obtain ⟨g, cap, hv, hg, ht⟩ := r0.open HIJ.out.2.2.1
  rw [HN.out] at hv
  subst hv
  have RA := hid (r0.keys HALL.out)
  have Q0 := hid q0
  have HT := hid (And.intro hg ht)
  clear r0 q0 hg ht HO
  have L1 := HLJ.out w0 Q0.out
  have hT1 : w0.there g (i * 4) cy.size := by rw [hsy]; exact HT.out.2 i HIJ.out.1
  have hT2 : (w0.setCells g (i * 4) cy.toList).there g (j * 4) cx.size := by rw [hsx]; exact World.there_setCells (HT.out.2 j HIJ.out.2.1) _ _ _
  have L2 := HLI.out _ (below_setCellsW g HT.out.1 cy.toList (i * 4) _ Q0.out)
  have p0 := hp0 g
  have p1 := hp1 g
  go_wp2_with (first | (refine wpList_load_known rfl _ (.tmp 34) rfl _ rfl _ L1 ?_) | (refine wpList_load_known rfl _ (.tmp 47) rfl _ rfl _ L2 ?_) | (refine wpList_store_mid rfl 25 (.tmp 36) (.tmp 35) rfl g (i * 4) cy rfl rfl hT1 hiy hoy ?_) | (refine wpList_store_mid rfl 25 (.tmp 49) (.tmp 48) rfl g (j * 4) cx rfl rfl hT2 hix hox ?_))
  have F1 := show WdsAt ((w0.setCells g (i * 4) cy.toList).setCells g (j * 4) cx.toList) (.slice (some ⟨g, 0, none⟩) n cap) ((s.set i y).set j x) from by
   rw [HZ.out.1, HZ.out.2, ← HN.out]
   rw [HZ.out.2, hsx] at hT2
   rw [hsy] at hT1
   have R := RA.out
   rw [← HN.out] at R
   exact (R.set i HIJ.out.1 y (HALL.out _ (List.mem_of_getElem? HXY.out.2)) hT1).set j (by rw [List.length_set]; exact HIJ.out.2.1) x (HALL.out _ (List.mem_of_getElem? HXY.out.1)) hT2
  exact hfin2.out _ _ H0.out F1 (below_setCellsW g HT.out.1 cx.toList (j * 4) _ (below_setCellsW g HT.out.1 cy.toList (i * 4) _ Q0.out))
 ·obtain ⟨c, hc⟩ : ∃ c, askN s.length k 1 1 = c := ⟨_, rfl⟩
  have hcn : c ≠ 0 := by rw [← hc]; exact c0
  have HF := hid (fun v' w' => hfin.out v' w' c hc hcn)
  rw [hc] at HAN
  have HCN := hid hcn
  clear c0 hfin hfin2 HO hc hcn
  generalize hn : s.length = n at *
  clear hn hk
  have key : (((n : Int) > 1024 ∨ (¬ (n : Int) > 1024 ∧ k < 1)) ∧ c = 1) ∨ (¬ (n : Int) > 1024 ∧ ¬ k < 1 ∧ k ≥ (n : Int) ∧ c = 40) := by
   have h := HAN.out
   split at h
   ·rename_i h'
    refine .inl ⟨?_, h⟩
    rcases h' with h' | h'
    ·exact .inl (by omega)
    ·by_cases hh : (n : Int) > 1024
     ·exact .inl hh
     ·exact .inr ⟨hh, h'⟩
   ·split at h
    ·exact .inr ⟨by omega, by omega, by omega, h⟩
    ·exact absurd h HCN.out
  clear HAN
  obtain ⟨d1 | ⟨d1, d2⟩, rfl⟩ | ⟨d1, d2, d3, rfl⟩ := key
  all_goals
   go_enter Try.func16, Try.ntmps16
   go_wp2_with fail
   refine HC.out.mono ?_
   rintro e w2 ⟨v', rfl, k2, q2⟩
   go_wp2
   exact HF.out _ _ k2 q2
theorem rpop_any (W : World) (sv : Value) (s : List Nat) (k : Int) (hs : WdsAt W sv s) (hk : s.length ≤ 10000) :
  Calls Try.prog 18 #[sv, .int .i64 k] W (PopP W (popL s k) (popT s k) (askN s.length k 0 0)) := by
 have hfin := hid (show ∀ v' (w' : World) (c : Int), askN s.length k 0 0 = c → c ≠ 0 → WdsAt w' v' s → Below W.heap.size W w' → PopP W (popL s k) (popT s k) (askN s.length k 0 0) (.returned (.tuple #[v', .slice none 0 0, .int .i64 c])) w' from fun v' w' c h1 h2 h3 h4 => by
  unfold popL popT
  rw [h1, if_neg h2, if_neg h2]
  exact ⟨v', _, rfl, h3, WdsAt.nil _, h4⟩)
 have hfin2 := hid (show ∀ v' u' (w' : World), askN s.length k 0 0 = 0 → WdsAt w' v' (s.take (s.length - k.toNat)) → WdsAt w' u' ((List.range k.toNat).map (nthW s)) → Below W.heap.size W w' → PopP W (popL s k) (popT s k) (askN s.length k 0 0) (.returned (.tuple #[v', u', .int .i64 0])) w' from fun v' u' w' h1 h2 h3 h4 => by
  unfold popL popT
  rw [h1, if_pos rfl, if_pos rfl]
  exact ⟨v', u', rfl, h2, h3, h4⟩)
 obtain ⟨Post, hPost⟩ : ∃ Post, PopP W (popL s k) (popT s k) (askN s.length k 0 0) = Post := ⟨_, rfl⟩
 rw [hPost] at hfin hfin2 ⊢
 clear hPost
 obtain ⟨a, ca, rfl, hnc, hcm⟩ := hs.shape
 have HS := hid hs
 have HALL := hid hs.all
 have HC := hid (fun X (hX : Below W.heap.size W X) => own_words' X _ s (hs.later hX) (by omega))
 have HAN := hid (show askN s.length k 0 0 = if 1024 < s.length ∨ k < 0 then 1 else if (s.length : Int) - 0 < k then 40 else 0 from rfl)
 have h0 : (0 : Int) ≤ (s.length : Int) := by omega
 have h1 : (s.length : Int) ≤ 10000 := by omega
 clear hs
 by_cases c0 : askN s.length k 0 0 = 0
 ·obtain ⟨g1, g2, g3⟩ := ask_ok c0
  obtain ⟨N, rfl⟩ : ∃ N : Nat, k = (N : Int) := ⟨k.toNat, by omega⟩
  simp only [Int.toNat_natCast] at hfin2
  have HCT := hid (fun X (hX : Below W.heap.size W X) => own_words' X _ (s.take (s.length - N)) ((HS.out.later hX).take (s.length - N) (by omega)) (by simp; omega))
  have H0 := hid c0
  have HN := hid (show N ≤ s.length ∧ s.length ≤ 1024 from ⟨by omega, g1⟩)
  have HSUB := hid (show (s.length : Int) - (N : Int) = ((s.length - N : Nat) : Int) by omega)
  have HNC := hid hnc
  have n0 : (0 : Int) ≤ (N : Int) := by omega
  have n1 : (N : Int) ≤ 1024 := by omega
  have d1 : ¬ (s.length : Int) > 1024 := by omega
  have d2 : ¬ (N : Int) < 0 := by omega
  have d3 : ¬ (N : Int) > (s.length : Int) := by omega
  clear c0 hfin HC g1 g2 g3 hk hnc hcm HAN
  obtain ⟨L, hL⟩ : ∃ L, s.length = L := ⟨_, rfl⟩
  have HL := hid hL
  rw [hL] at HCT HS HSUB d1 d3 h0 h1 ⊢
  clear hL
  go_enter Try.func18, Try.ntmps18
  go_wp2_with fail
  go_loopw [7, 8] (fun ov i wr => ∃ k : Nat, k ≤ N ∧ i = .int .i64 (k : Int) ∧ WdRow wr W.heap.size ov ((List.range k).map (nthW s)) ∧ Below W.heap.size W wr) (fun _ i _ => N - (intOf i).toNat)
  case atStart => exact ⟨0, by omega, rfl, WdRow.nil _ _, Below.refl _ _⟩
  case round =>
   obtain ⟨k, hk, rfl, hrow, hq⟩ := hrel
   obtain ⟨ov, hov⟩ : ∃ ov, ov = u7 := ⟨_, rfl⟩
   subst hov
   have HQ := hid hq
   have HROW := hid hrow
   clear hrow hq
   by_cases hlt : k < N
   ·have hltI : (k : Int) < (N : Int) := by omega
    have k0 : (0 : Int) ≤ (k : Int) := by omega
    have kb : (k : Int) ≤ 1024 := by omega
    obtain ⟨i, hi⟩ : ∃ i, L - 1 - k = i := ⟨_, rfl⟩
    have e1 : (L : Int) - 1 - (k : Int) = (i : Int) := by have := HN.out; have := HL.out; omega
    have i0 : (0 : Int) ≤ (i : Int) := by omega
    have i1 : (i : Int) < (L : Int) := by omega
    have hx := getD_at (s := s) (i := i) (by have := HN.out; have := HL.out; omega)
    have hnth : nthW s k = s.getD i 0 := by unfold nthW; rw [HL.out, hi]
    have HRS := hid (show (List.range (k + 1)).map (nthW s) = (List.range k).map (nthW s) ++ [s.getD i 0] by rw [range_snoc, hnth])
    obtain ⟨b, rfl, _⟩ := HS.out.at hx
    obtain ⟨c0, c1, c2, c3⟩ := (HS.out.later HQ.out).at4 hx
    obtain ⟨v', w', happ, hrow', hbel⟩ := push_word wr W.heap.size ov _ HROW.out HQ.out.size (by simp; have := HN.out; omega) (s.getD i 0) (HS.out.ok hx)
    have R2 := hid hrow'
    have Q2 := hid (HQ.out.trans hbel)
    have HK := hid hlt
    clear hlt hk hrow' hbel hx hnth hi
    generalize s.getD i 0 = x at *
    go_wp2_with (at_builtin; refine wpList_append_runW rfl (.tmp 29) (.tmp 38) 27 rfl _ _ _ rfl rfl happ ?_)
    go_roundw
    case rel => exact ⟨k + 1, HK.out, by simp, by rw [HRS.out]; exact R2.out, Q2.out⟩
    case measure => have := HK.out; simp [intOf]; omega
   ·obtain rfl : k = N := by omega
    have hkk : ¬ (k : Int) < (k : Int) := by omega
    have hLN : ((L - k : Nat) : Int) ≤ (L : Int) := by omega
    have hL0 : (0 : Int) ≤ ((L - k : Nat) : Int) := by omega
    have hLN2 : L - k ≤ ca := by have := HNC.out; have := HL.out; omega
    have hsub := HSUB.out
    have HRN := hid (show ∀ x ∈ (List.range k).map (nthW s), W256 x from fun x hx => by
     obtain ⟨i, _, rfl⟩ := List.mem_map.1 hx
     exact nthW_lt HALL.out i)
    clear hk
    go_wp2_with fail
    refine (HCT.out _ HQ.out).mono ?_
    rintro e w2 ⟨v', rfl, k2, q2⟩
    go_wp2
    go_ret3
    exact hfin2.out _ _ _ H0.out (by rw [HL.out]; exact k2) ((HROW.out.keys HRN.out).later q2) (HQ.out.trans (q2.mono HQ.out.size))
 ·obtain ⟨c, hc⟩ : ∃ c, askN s.length k 0 0 = c := ⟨_, rfl⟩
  have hcn : c ≠ 0 := by rw [← hc]; exact c0
  have HF := hid (fun v' w' => hfin.out v' w' c hc hcn)
  rw [hc] at HAN
  have HCN := hid hcn
  clear c0 hfin hfin2 hc hcn hnc hcm
  generalize hn : s.length = n at *
  clear hn hk
  have key : (((n : Int) > 1024 ∨ (¬ (n : Int) > 1024 ∧ k < 0)) ∧ c = 1) ∨ (¬ (n : Int) > 1024 ∧ ¬ k < 0 ∧ k > (n : Int) ∧ c = 40) := by
   have h := HAN.out
   split at h
   ·rename_i h'
    refine .inl ⟨?_, h⟩
    rcases h' with h' | h'
    ·exact .inl (by omega)
    ·by_cases hh : (n : Int) > 1024
     ·exact .inl hh
     ·exact .inr ⟨hh, h'⟩
   ·split at h
    ·exact .inr ⟨by omega, by omega, by omega, h⟩
    ·exact absurd h HCN.out
  clear HAN
  obtain ⟨d1 | ⟨d1, d2⟩, rfl⟩ | ⟨d1, d2, d3, rfl⟩ := key
  all_goals
   go_enter Try.func18, Try.ntmps18
   go_wp2_with fail
   refine (HC.out _ (Below.refl _ _)).mono ?_
   rintro e w2 ⟨v', rfl, k2, q2⟩
   go_wp2
   go_ret3
   exact HF.out _ _ k2 q2
end
section
open Go Go.ChangeShapes Go.WideShapes Go.ChangeAt Go.RowKit Go.Deep
theorem cellsI64 : Try.prog.cellsOf 3 = 1 := by kernel_rfl
theorem laidOutAll : laidOutB Try.prog = true := by kernel_rfl
theorem trodAll_below {H : Type} {enc : TypeId × Value → H} {W W' : World} (hb : Below W.heap.size W W') : ∀ {ts : List TypeId} {vs : List Value} {ds : List (DataW H)} {ps : List MemPlace},
  (∀ t ∈ ts, Try.prog.readableRec t = true ∧ t < Try.prog.types.size) → DataW.TrodAll enc Try.prog W 0 (fun _ => true) true ts vs ds ps → (∀ x ∈ ps, x.block < W.heap.size) →
  DataW.TrodAll enc Try.prog W' 0 (fun b => decide (b < W.heap.size)) true ts vs ds ps
 | [], [], [], _, _, h, _ => h
 | _ :: _, _ :: _, _ :: _, _, ht, ⟨p, q, h1, h2, e⟩, hs =>
  ⟨p, q, Below.trod laidOutAll (ht _ (List.mem_cons.2 (Or.inl rfl))).1 (ht _ (List.mem_cons.2 (Or.inl rfl))).2 h1 hb (fun x hx => hs x (by rw [e]; exact List.mem_append_left _ hx)),
   trodAll_below hb (fun t h => ht t (List.mem_cons.2 (Or.inr h))) h2 (fun x hx => hs x (by rw [e]; exact List.mem_append_right _ hx)), e⟩
theorem post_read {H : Type} {enc : TypeId × Value → H} {f : Func} {s : ChangeSpec} {W W' : World} {args : Array Value} {ds : List (DataW H)} {before : List MemPlace}
  (hW : DataW.Whole enc Try.prog f.params.toList s.vars false W args.toList ds [] before) (hvars : s.vars = []) (hft : f.resultTypes = #[4])
  (hfn : s.fn H ds = { results := [.lit (.bool true)], args := ds }) (hA : DataW.TrodAll enc Try.prog W 0 (fun _ => true) true f.params.toList args.toList ds before)
  (hts : (f.params.toList.all fun t => Try.prog.readableRec t && decide (t < Try.prog.types.size)) = true)
  (hb : Below W.heap.size W W') : s.post enc Try.prog f false true false false W args (.bool true) W' := by
 have e : (s.fn H (ds ++ [])) = { results := [.lit (.bool true)], args := ds } := by rw [List.append_nil]; exact hfn
 refine ⟨ds, [], before, [], before, [], hW, ?_, ?_, ?_, World.keptBut_mono (fun p hp => absurd hp (by simp)) (hb.frame (fun _ => False)), fun h => by cases h⟩
 ·rw [e, hft]
  exact trodAll_mk1 (shut_bool Try.underlying4 _)
 ·rw [e]
  exact trodAll_below hb (fun t ht => by
   have := List.all_eq_true.1 hts t ht
   simpa using this) hA (fun x hx => by simpa using hW.lt x hx)
 ·rw [e, hvars]
  rfl
def NumsAt (W : World) (v : Value) (zs : List Int) : Prop :=
 ∃ a cap, v = .slice a zs.length cap ∧ zs.length ≤ cap ∧ cap ≤ 9223372036854775807 ∧ ∀ (i : Nat) (p : Int), zs[i]? = some p → I64 p ∧ ∃ b : Addr, a = some b ∧ W.cell? (b.add i) = some (.int .i64 p)
theorem NumsAt.keep {W X : World} {v : Value} {zs : List Int} (h : NumsAt W v zs) (hk : ∀ (a : Addr) (u : Value), W.cell? a = some u → X.cell? a = some u) : NumsAt X v zs := by
 obtain ⟨a, cap, h1, h2, h3, h4⟩ := h
 refine ⟨a, cap, h1, h2, h3, fun i p hp => ?_⟩
 obtain ⟨g1, b, e, c0⟩ := h4 i p hp
 exact ⟨g1, b, e, hk _ _ c0⟩
theorem NumsAt.later {W X : World} {v : Value} {zs : List Int} (h : NumsAt W v zs) (hb : Below W.heap.size W X) : NumsAt X v zs := h.keep (cell_below hb)
theorem NumsAt.nil (W : World) : NumsAt W (.slice none 0 0) [] := ⟨none, 0, rfl, by simp, by omega, fun i p hp => by simp at hp⟩
theorem NumsAt.shape {W : World} {v : Value} {zs : List Int} (h : NumsAt W v zs) : ∃ a cap, v = .slice a zs.length cap ∧ zs.length ≤ cap ∧ cap ≤ 9223372036854775807 := by
 obtain ⟨a, cap, h1, h2, h3, _⟩ := h
 exact ⟨a, cap, h1, h2, h3⟩
theorem NumsAt.at {W : World} {a : Option Addr} {n cap : Nat} {zs : List Int} (h : NumsAt W (.slice a n cap) zs) {i : Nat} {p : Int} (hp : zs[i]? = some p) : I64 p ∧ ∃ b : Addr, a = some b ∧ W.cell? (b.add i) = some (.int .i64 p) := by
 obtain ⟨a', cap', h1, h2, h3, h4⟩ := h
 injection h1 with e1 e2 e3
 subst e1
 exact h4 i p hp
theorem open_nums {H : Type} {enc : TypeId × Value → H} {W : World} {base b : Nat} {sp : Nat → Bool} {held : Bool} {v : Value} {d : DataW H} {ps : List MemPlace}
  (hval : Value.okWide Try.prog W .any base 22 v) (hd : DataW.Trod enc Try.prog W b sp held 22 v d ps) : ∃ zs, NumsAt W v zs := by
 obtain ⟨a0, len, cap, rfl⟩ := okWide_slice Try.underlying22 hval
 obtain ⟨fuel, hf⟩ := hd
 rcases open_slice Try.underlying22 hf with ⟨hcs, _⟩ | ⟨a, len', cap', m, n, D, Pl, hcs, _, hl, hm, hmm, _, hi⟩
 ·simp [Value.cells] at hcs
  obtain ⟨rfl, rfl, rfl⟩ := hcs
  exact ⟨[], none, 0, rfl, by simp, by simp, fun i p hp => by simp at hp⟩
 ·simp [Value.cells] at hcs
  obtain ⟨rfl, rfl, rfl⟩ := hcs
  have hlm : len ≤ m := by rw [hmm]; split <;> omega
  have key : ∀ i, i < len → ∃ p : Int, I64 p ∧ W.cell? (a.add i) = some (.int .i64 p) := by
   intro i hil
   obtain ⟨cs', hc, ht⟩ := hi i (by omega)
   rw [cellsI64] at hc
   obtain ⟨_, hcl, hat⟩ := World.cells?_some hc
   match cs', hcl with
   | [c0], _ =>
    obtain ⟨x0, e0, _, w0⟩ := DataW.trod_int Try.underlying3 ht
    simp at e0
    subst e0
    have b0 := bounds_i64 w0
    refine ⟨x0, by unfold I64; omega, ?_⟩
    have := hat 0 (by simp)
    simpa [Addr.add] using this
  have hch : ∃ f : Nat → Int, ∀ i, i < len → I64 (f i) ∧ W.cell? (a.add i) = some (.int .i64 (f i)) := by
   refine ⟨fun i => if h : i < len then Classical.choose (key i h) else 0, fun i h => ?_⟩
   simp only [dif_pos h]
   exact Classical.choose_spec (key i h)
  obtain ⟨f, hf'⟩ := hch
  have hmax : maxLen ≤ 9223372036854775807 := by decide
  refine ⟨(List.range len).map f, some a, cap, by simp, by simpa using hl, by omega, fun i p hp => ?_⟩
  obtain ⟨hlt, he⟩ := List.getElem?_eq_some_iff.1 hp
  simp at hlt he
  subst he
  obtain ⟨g1, g3⟩ := hf' i hlt
  exact ⟨g1, a, rfl, g3⟩
end
section
open Go Go.RowKit
attribute [local go_sem] Oper.semAt_some Grows wide_fn eq4
def lenOf : Value → Nat
 | .slice _ n _ => n
 | _ => 0
def rawW (zs : List Int) (k : Nat) : List Nat := (zs.take k).map ofN
def moreW (l : List Nat) : Nat → List Nat
 | 0 => l
 | m + 1 => moreW (l ++ [l.length]) m
def stkW (zs : List Int) (great : Bool) (less : Int) : List Nat :=
 if great = true then moreW (rawW zs 20) (1025 - (pickN less 4).toNat - (rawW zs 20).length) else rawW zs 20
theorem moreW_length (l : List Nat) (m : Nat) : (moreW l m).length = l.length + m := by
 induction m generalizing l with
 | zero => rfl
 | succ m ih => rw [moreW, ih]; simp; omega
theorem rawW_length (zs : List Int) : (rawW zs 20).length ≤ 20 := by unfold rawW; simp; omega
theorem stkW_length (zs : List Int) (great : Bool) (less : Int) : (stkW zs great less).length ≤ 1025 := by
 have := rawW_length zs
 unfold stkW
 split
 ·rw [moreW_length]; omega
 ·omega
theorem ofN_w {z : Int} (h : I64 z) : W256 (ofN z) := by
 unfold I64 at h
 unfold ofN W256
 split <;> omega
theorem rawW_succ {zs : List Int} {k : Nat} {z : Int} (h : zs[k]? = some z) : rawW zs (k + 1) = rawW zs k ++ [ofN z] := by
 unfold rawW
 rw [List.take_add_one, h, List.map_append]
 rfl
theorem stack_any (W : World) (rv : Value) (zs : List Int) (great : Bool) (less : Int) (hz : NumsAt W rv zs) (hless : I64 less) :
  Calls Try.prog 8 #[rv, .bool great, .int .i64 less] W fun e w' => ∃ v', e = .returned v' ∧ WdRow w' W.heap.size v' (stkW zs great less) ∧ (∀ x ∈ stkW zs great less, W256 x) ∧ Below W.heap.size W w' := by
 have HZ := hid hz
 obtain ⟨a, cap, rfl, hnc, hcm⟩ := hz.shape
 have HP := hid (pick_ret less hless 4 (by decide) (by decide))
 obtain ⟨p, hp⟩ : ∃ p, pickN less 4 = p := ⟨_, rfl⟩
 have hpr := pickN_range less 4 (by decide)
 rw [hp] at HP hpr
 obtain ⟨n, hn⟩ : ∃ n, zs.length = n := ⟨_, rfl⟩
 have HN := hid hn
 rw [hn] at HZ hnc ⊢
 have HNM := hid (show n ≤ 9223372036854775807 by omega)
 have hn1 : (n : Int) ≤ 9223372036854775807 := by omega
 have HE := hid (show ∀ l, (if great = true then moreW (rawW zs 20) (1025 - p.toNat - (rawW zs 20).length) else rawW zs 20) = l → stkW zs great less = l from fun l h => by unfold stkW; rw [hp]; exact h)
 clear hz hnc hcm hn hp hless
 obtain ⟨p0, p4⟩ := hpr
 go_enter Try.func8, Try.ntmps8
 go_wp2_with fail
 go_loopw [7, 8] (fun ov i wr => ∃ k : Nat, k ≤ n ∧ k ≤ 20 ∧ i = .int .i64 (k : Int) ∧ WdRow wr W.heap.size ov (rawW zs k) ∧ (rawW zs k).length = k ∧ (∀ x ∈ rawW zs k, W256 x) ∧ Below W.heap.size W wr) (fun _ i _ => 20 - (intOf i).toNat)
 case atStart => exact ⟨0, by omega, by omega, rfl, WdRow.nil _ _, rfl, (fun x hx => by simp [rawW] at hx), Below.refl _ _⟩
 case round =>
  obtain ⟨k, hk, hk20, rfl, hrow, hlen, hall, hq⟩ := hrel
  obtain ⟨ov, hov⟩ : ∃ ov, ov = u7 := ⟨_, rfl⟩
  subst hov
  have HQ := hid hq
  have HROW := hid hrow
  have HALL := hid hall
  have HLEN := hid hlen
  clear hrow hq hall hlen
  by_cases hlt : k < n ∧ k < 20
  ·obtain ⟨hl1, hl2⟩ := hlt
   have hl1I : (k : Int) < (n : Int) := by omega
   have hl2I : (k : Int) < 20 := by omega
   have k0 : (0 : Int) ≤ (k : Int) := by omega
   obtain ⟨z, hz⟩ : ∃ z, zs[k]? = some z := ⟨_, List.getElem?_eq_getElem (by have := HN.out; omega)⟩
   obtain ⟨hzI, b, rfl, hc⟩ := (HZ.out.later HQ.out).at hz
   have HO := hid (refOf_ret z hzI)
   have HW := hid (ofN_w hzI)
   have HS := hid (rawW_succ hz)
   unfold wv at HO
   have HK := hid (And.intro hl1 hl2)
   clear hl1 hl2 hz hzI hk hk20
   go_wp2_with fail
   refine (HO.out _).mono ?_
   rintro e w1 ⟨rfl, q1⟩
   obtain ⟨v', w', happ, hrow', hbel⟩ := push_word w1 W.heap.size ov _ (HROW.out.later q1) (Nat.le_trans HQ.out.size q1.size) (by rw [HLEN.out]; have := HK.out; omega) (ofN z) HW.out
   have R2 := hid hrow'
   have Q2 := hid ((HQ.out.trans (q1.mono HQ.out.size)).trans hbel)
   clear hrow' hbel q1 hc HO
   generalize ofN z = x at *
   go_wp2_with (at_builtin; refine wpList_append_runW rfl (.tmp 19) (.tmp 25) 27 rfl _ _ _ rfl rfl happ ?_)
   go_roundw
   case rel => exact ⟨k + 1, by have := HK.out; omega, by have := HK.out; omega, by simp, by rw [HS.out]; exact R2.out, by rw [HS.out, List.length_append, HLEN.out]; rfl, by
    rw [HS.out]
    intro y hy
    rcases List.mem_append.1 hy with hy | hy
    ·exact HALL.out y hy
    ·simp at hy; subst hy; exact HW.out, Q2.out⟩
   case measure => have := HK.out; simp [intOf]; omega
  ·have HR20 := hid (show rawW zs k = rawW zs 20 from by
    unfold rawW
    by_cases h : k < 20
    ·have hkn : k = n := by omega
     rw [List.take_of_length_le (by rw [HN.out]; omega), List.take_of_length_le (by rw [HN.out]; omega)]
    ·rw [show k = 20 by omega])
   have ROW2 := hid (show WdRow wr W.heap.size ov (rawW zs 20) by rw [← HR20.out]; exact HROW.out)
   have ALL2 := hid (show ∀ x ∈ rawW zs 20, W256 x by rw [← HR20.out]; exact HALL.out)
   have LEN2 := hid (show (rawW zs 20).length = k by rw [← HR20.out]; exact HLEN.out)
   have HK20 := hid hk20
   have key : (¬ (k : Int) < (n : Int)) ∨ ((k : Int) < (n : Int) ∧ ¬ (k : Int) < 20) := by omega
   clear hlt hk hk20
   have FIN : ∀ (hh : great = great), True := fun _ => trivial
   cases great
   ·have HE2 := hid (HE.out _ (if_neg (by decide)))
    rcases key with h | ⟨h, h2⟩
    ·go_wp2_with fail
     go_loopw [7] (fun ov2 wx => ov2 = ov ∧ wx = wr) (fun _ _ => 0)
     case atStart => exact ⟨rfl, rfl⟩
     case round =>
      obtain ⟨rfl, rfl⟩ := hrel
      go_wp2_with fail
      go_ret
      exact ⟨_, rfl, by rw [HE2.out]; exact ROW2.out, by rw [HE2.out]; exact ALL2.out, HQ.out⟩
    ·go_wp2_with fail
     go_loopw [7] (fun ov2 wx => ov2 = ov ∧ wx = wr) (fun _ _ => 0)
     case atStart => exact ⟨rfl, rfl⟩
     case round =>
      obtain ⟨rfl, rfl⟩ := hrel
      go_wp2_with fail
      go_ret
      exact ⟨_, rfl, by rw [HE2.out]; exact ROW2.out, by rw [HE2.out]; exact ALL2.out, HQ.out⟩
   ·have HE2 := hid (HE.out _ (if_pos rfl))
    have HLE := hid (show (rawW zs 20).length ≤ 20 by rw [LEN2.out]; exact HK20.out)
    rcases key with h | ⟨h, h2⟩
    ·go_wp2_with fail
     go_loopw [7] (fun ov2 wx => ∃ l : List Nat, WdRow wx W.heap.size ov2 l ∧ (∀ x ∈ l, W256 x) ∧ Below W.heap.size W wx ∧ l.length ≤ 1025 ∧ moreW l (1025 - p.toNat - l.length) = moreW (rawW zs 20) (1025 - p.toNat - (rawW zs 20).length)) (fun ov2 _ => 1025 - lenOf ov2)
     case atStart => exact ⟨_, ROW2.out, ALL2.out, HQ.out, by have := HLE.out; omega, rfl⟩
     case round =>
      obtain ⟨l, hrow, hall, hq, hle, hm⟩ := hrel
      obtain ⟨a2, c2, rfl⟩ := hrow.shapeW
      have hg2 := hid hm
      have HQ2 := hid hq
      have HROW2 := hid hrow
      have HALL2 := hid hall
      have hl0 : (0 : Int) ≤ (l.length : Int) := by omega
      have hl1 : (l.length : Int) ≤ 1025 := by omega
      obtain ⟨m, hml⟩ : ∃ m, l.length = m := ⟨_, rfl⟩
      have HML := hid hml
      have HLE2 := hid hle
      rw [hml] at hl0 hl1 ⊢
      clear hm hq hrow hall hle hml
      by_cases hlt : (m : Int) < 1025 - p
      ·have HO := hid (refOf_ret (m : Int) (by unfold I64; omega))
       have hof : ofN (m : Int) = m := ofN_nat m
       rw [hof] at HO
       have HW := hid (show W256 m by unfold W256; omega)
       have HST := hid (show 1025 - p.toNat - m = (1025 - p.toNat - (m + 1)) + 1 by omega)
       unfold wv at HO
       have HM2 := hid (show m + 1 ≤ 1025 by omega)
       clear hof
       go_wp2_with fail
       refine (HP.out _).mono ?_
       rintro e w0 ⟨rfl, q0⟩
       have Q0 := hid q0
       clear q0
       go_wp2_with fail
       refine (HO.out _).mono ?_
       rintro e w1 ⟨rfl, q1⟩
       have Q1 := hid (Q0.out.trans (q1.mono Q0.out.size))
       have hr0 := HROW2.out.later Q1.out
       rw [HML.out] at hr0
       obtain ⟨v', w', happ, hrow', hbel⟩ := push_word w1 W.heap.size (.slice a2 m c2) l hr0 (Nat.le_trans HQ2.out.size Q1.out.size) (by have := HLE2.out; omega) m HW.out
       have R2 := hid hrow'
       have Q2 := hid ((HQ2.out.trans (Q1.out.mono HQ2.out.size)).trans hbel)
       have hsh := hrow'.shapeW
       clear hrow' hbel q1 HO hr0
       go_wp2_with (at_builtin; refine wpList_append_runW rfl (.tmp 36) (.tmp 40) 27 rfl _ _ _ rfl rfl happ ?_)
       go_roundw
       case rel => exact ⟨l ++ [m], R2.out, fun y hy => by
        rcases List.mem_append.1 hy with hy | hy
        ·exact HALL2.out y hy
        ·simp at hy; subst hy; exact HW.out, Q2.out, by rw [List.length_append, HML.out]; exact HM2.out, by
        rw [← hg2.out, HML.out, HST.out, List.length_append, HML.out]
        show _ = moreW (l ++ [l.length]) _
        rw [HML.out]
        rfl⟩
       case measure =>
        obtain ⟨a3, c3, e3⟩ := hsh
        rw [e3]
        have := HM2.out
        have := HML.out
        simp [lenOf]
        omega
      ·have HL0 := hid (show 1025 - p.toNat - l.length = 0 by rw [HML.out]; omega)
       have hg3 := hg2.out
       rw [HL0.out] at hg3
       have HG3 := hid (show stkW zs true less = l by rw [HE2.out, ← hg3]; rfl)
       clear hg3
       go_wp2_with fail
       refine (HP.out _).mono ?_
       rintro e w0 ⟨rfl, q0⟩
       have Q0 := hid (HQ2.out.trans (q0.mono HQ2.out.size))
       have R0 := hid (HROW2.out.later q0)
       clear q0
       go_wp2_with fail
       go_ret
       refine ⟨_, rfl, ?_, by rw [HG3.out]; exact HALL2.out, Q0.out⟩
       rw [HG3.out]
       have := R0.out
       rw [HML.out] at this
       exact this
    ·go_wp2_with fail
     go_loopw [7] (fun ov2 wx => ∃ l : List Nat, WdRow wx W.heap.size ov2 l ∧ (∀ x ∈ l, W256 x) ∧ Below W.heap.size W wx ∧ l.length ≤ 1025 ∧ moreW l (1025 - p.toNat - l.length) = moreW (rawW zs 20) (1025 - p.toNat - (rawW zs 20).length)) (fun ov2 _ => 1025 - lenOf ov2)
     case atStart => exact ⟨_, ROW2.out, ALL2.out, HQ.out, by have := HLE.out; omega, rfl⟩
     case round =>
      obtain ⟨l, hrow, hall, hq, hle, hm⟩ := hrel
      obtain ⟨a2, c2, rfl⟩ := hrow.shapeW
      have hg2 := hid hm
      have HQ2 := hid hq
      have HROW2 := hid hrow
      have HALL2 := hid hall
      have hl0 : (0 : Int) ≤ (l.length : Int) := by omega
      have hl1 : (l.length : Int) ≤ 1025 := by omega
      obtain ⟨m, hml⟩ : ∃ m, l.length = m := ⟨_, rfl⟩
      have HML := hid hml
      have HLE2 := hid hle
      rw [hml] at hl0 hl1 ⊢
      clear hm hq hrow hall hle hml
      by_cases hlt : (m : Int) < 1025 - p
      ·have HO := hid (refOf_ret (m : Int) (by unfold I64; omega))
       have hof : ofN (m : Int) = m := ofN_nat m
       rw [hof] at HO
       have HW := hid (show W256 m by unfold W256; omega)
       have HST := hid (show 1025 - p.toNat - m = (1025 - p.toNat - (m + 1)) + 1 by omega)
       unfold wv at HO
       have HM2 := hid (show m + 1 ≤ 1025 by omega)
       clear hof
       go_wp2_with fail
       refine (HP.out _).mono ?_
       rintro e w0 ⟨rfl, q0⟩
       have Q0 := hid q0
       clear q0
       go_wp2_with fail
       refine (HO.out _).mono ?_
       rintro e w1 ⟨rfl, q1⟩
       have Q1 := hid (Q0.out.trans (q1.mono Q0.out.size))
       have hr0 := HROW2.out.later Q1.out
       rw [HML.out] at hr0
       obtain ⟨v', w', happ, hrow', hbel⟩ := push_word w1 W.heap.size (.slice a2 m c2) l hr0 (Nat.le_trans HQ2.out.size Q1.out.size) (by have := HLE2.out; omega) m HW.out
       have R2 := hid hrow'
       have Q2 := hid ((HQ2.out.trans (Q1.out.mono HQ2.out.size)).trans hbel)
       have hsh := hrow'.shapeW
       clear hrow' hbel q1 HO hr0
       go_wp2_with (at_builtin; refine wpList_append_runW rfl (.tmp 36) (.tmp 40) 27 rfl _ _ _ rfl rfl happ ?_)
       go_roundw
       case rel => exact ⟨l ++ [m], R2.out, fun y hy => by
        rcases List.mem_append.1 hy with hy | hy
        ·exact HALL2.out y hy
        ·simp at hy; subst hy; exact HW.out, Q2.out, by rw [List.length_append, HML.out]; exact HM2.out, by
        rw [← hg2.out, HML.out, HST.out, List.length_append, HML.out]
        show _ = moreW (l ++ [l.length]) _
        rw [HML.out]
        rfl⟩
       case measure =>
        obtain ⟨a3, c3, e3⟩ := hsh
        rw [e3]
        have := HM2.out
        have := HML.out
        simp [lenOf]
        omega
      ·have HL0 := hid (show 1025 - p.toNat - l.length = 0 by rw [HML.out]; omega)
       have hg3 := hg2.out
       rw [HL0.out] at hg3
       have HG3 := hid (show stkW zs true less = l by rw [HE2.out, ← hg3]; rfl)
       clear hg3
       go_wp2_with fail
       refine (HP.out _).mono ?_
       rintro e w0 ⟨rfl, q0⟩
       have Q0 := hid (HQ2.out.trans (q0.mono HQ2.out.size))
       have R0 := hid (HROW2.out.later q0)
       clear q0
       go_wp2_with fail
       go_ret
       refine ⟨_, rfl, ?_, by rw [HG3.out]; exact HALL2.out, Q0.out⟩
       rw [HG3.out]
       have := R0.out
       rw [HML.out] at this
       exact this
theorem made_of (w : World) (l : List Nat) (cs : List Value) (h : flatW l = cs) (hw : ∀ x ∈ l, W256 x) (hl : l.length ≤ 100000) : WdsAt (w.alloc (.cells cs.toArray 25)) (.slice (some ⟨w.heap.size, 0, none⟩) l.length l.length) l := by subst h; exact words_made w l hw hl
theorem of_1 : Ret Try.prog 19 #[.int .i64 1] (.agg #[.int .u64 1, .int .u64 0, .int .u64 0, .int .u64 0]) := (refOf_ret 1 (by unfold I64; omega)).of_eq rfl (wv_of ⟨by decide, by decide, by decide, by decide⟩)
theorem of_2 : Ret Try.prog 19 #[.int .i64 2] (.agg #[.int .u64 2, .int .u64 0, .int .u64 0, .int .u64 0]) := (refOf_ret 2 (by unfold I64; omega)).of_eq rfl (wv_of ⟨by decide, by decide, by decide, by decide⟩)
theorem small_w {l : List Nat} (h : ∀ x ∈ l, x ≤ 2000) : ∀ x ∈ l, W256 x := fun x hx => by have := h x hx; unfold W256; omega
theorem made_get (n t : Nat) (h : t < n) : (madeCells #[.int .u64 0, .int .u64 0, .int .u64 0, .int .u64 0] n)[t]? = some (.int .u64 0) := by
 unfold madeCells
 rw [Array.getElem?_map, Array.getElem?_range, if_pos h]
 have h4 : t % 4 < 4 := Nat.mod_lt _ (by decide)
 show some ((#[.int .u64 0, .int .u64 0, .int .u64 0, .int .u64 0] : Array Value)[t % 4]!) = _
 obtain h | h | h | h : t % 4 = 0 ∨ t % 4 = 1 ∨ t % 4 = 2 ∨ t % 4 = 3 := by omega
 all_goals rw [h]; rfl
theorem run_mk1024 (W : World) : ∃ cs : Array Value, (Instr.makeSlice 27 (.int .i64 1024) (.int .i64 1024)).run Try.prog W = .ok (.slice (some ⟨W.heap.size, 0, none⟩) 1024 1024) (W.alloc (.cells cs 25)) ∧ WdsAt (W.alloc (.cells cs 25)) (.slice (some ⟨W.heap.size, 0, none⟩) 1024 1024) (List.replicate 1024 0) := by
 obtain ⟨i, hi, hz, hs, hb⟩ := infoW_of
 have h := run_make (P := Try.prog) W 27 25 i _ Try.underlying27 hi hz .i64 .i64 1024 1024 (by omega) (by omega) (by rw [hb]; omega) (by omega)
 refine ⟨_, h, ?_⟩
 rw [hs]
 refine ⟨some ⟨W.heap.size, 0, none⟩, 1024, by rw [List.length_replicate], by rw [List.length_replicate]; omega, by omega, fun x hx => by rw [List.mem_replicate] at hx; rw [hx.2]; unfold W256; omega, fun i x hx => ⟨_, rfl, ?_⟩⟩
 have hil := (List.getElem?_eq_some_iff.1 hx).1
 rw [List.length_replicate] at hil
 have hx0 : x = 0 := by
  have := List.mem_of_getElem? hx
  rw [List.mem_replicate] at this
  exact this.2
 subst hx0
 intro j u hj
 have hj4 : j < 4 := by have := (List.getElem?_eq_some_iff.1 hj).1; rwa [wdL_len] at this
 have hu : u = .int .u64 0 := by
  unfold wdL at hj
  rw [lim_zero, lim_zero, lim_zero, lim_zero] at hj
  obtain rfl | rfl | rfl | rfl : j = 0 ∨ j = 1 ∨ j = 2 ∨ j = 3 := by omega
  all_goals injection hj with hj; exact hj.symm
 subst hu
 rw [Addr.add_add]
 rw [Addr.add_mid, Nat.zero_add]
 exact (Has.new W _ _).cell _ _ (made_get _ _ (by show i * 4 + j < 4096; omega))
section
def UG (nul : List Nat) (W : World) (f : Nat → Bool) (g : Nat → Value) (w : World) : Prop :=
 Below W.heap.size W w ∧ (f 0 = true → ∃ b : Nat, g 0 = .slice (some ⟨b, 0, none⟩) 1024 1024 ∧ WdsAt w (.slice (some ⟨b, 0, none⟩) 1024 1024) nul) ∧
 (f 3 = true → ∃ b : Nat, g 3 = .slice (some ⟨b, 0, none⟩) 1 1 ∧ WdsAt w (.slice (some ⟨b, 0, none⟩) 1 1) [1]) ∧
 (f 4 = true → ∃ a n c, g 4 = .tuple #[.slice a n c, .int .i64 41]) ∧ (f 5 = true → ∃ a n c, g 5 = .tuple #[.slice a n c, .int .i64 41])
variable {nul : List Nat} {W : World} {f : Nat → Bool} {g : Nat → Value} {w w' : World}
theorem UG.later (h : UG nul W f g w) (hb : Below w.heap.size w w') : UG nul W f g w' := by
 obtain ⟨h1, h2, h3, h4, h5⟩ := h
 exact ⟨h1.trans (hb.mono h1.size), fun k => let ⟨b, e, j⟩ := h2 k; ⟨b, e, j.later hb⟩, fun k => let ⟨b, e, j⟩ := h3 k; ⟨b, e, j.later hb⟩, h4, h5⟩
theorem UG.same {f' : Nat → Bool} {g' : Nat → Value} (h : UG nul W f g w) (hh : ∀ j, j = 0 ∨ j = 3 ∨ j = 4 ∨ j = 5 → f j = f' j ∧ g j = g' j) : UG nul W f' g' w := by
 unfold UG at h ⊢
 rwa [(hh 0 (by omega)).1, (hh 0 (by omega)).2, (hh 3 (by omega)).1, (hh 3 (by omega)).2, (hh 4 (by omega)).1, (hh 4 (by omega)).2, (hh 5 (by omega)).1, (hh 5 (by omega)).2] at h
theorem UG.n0 (h : UG nul W f g w) (hb : Below w.heap.size w w') {b : Nat} (hk : WdsAt w' (.slice (some ⟨b, 0, none⟩) 1024 1024) nul) : UG nul W (upd f 0 true) (upd g 0 (.slice (some ⟨b, 0, none⟩) 1024 1024)) w' := by
 obtain ⟨h1, h2, h3, h4, h5⟩ := h.later hb
 exact ⟨h1, fun _ => ⟨b, by simp [upd], hk⟩, by simpa [upd] using h3, by simpa [upd] using h4, by simpa [upd] using h5⟩
theorem UG.n3 (h : UG nul W f g w) (hb : Below w.heap.size w w') {b : Nat} (hk : WdsAt w' (.slice (some ⟨b, 0, none⟩) 1 1) [1]) : UG nul W (upd f 3 true) (upd g 3 (.slice (some ⟨b, 0, none⟩) 1 1)) w' := by
 obtain ⟨h1, h2, h3, h4, h5⟩ := h.later hb
 exact ⟨h1, by simpa [upd] using h2, fun _ => ⟨b, by simp [upd], hk⟩, by simpa [upd] using h4, by simpa [upd] using h5⟩
theorem UG.n4 (h : UG nul W f g w) (hb : Below w.heap.size w w') (a : Option Addr) (n c : Nat) : UG nul W (upd f 4 true) (upd g 4 (.tuple #[.slice a n c, .int .i64 41])) w' := by
 obtain ⟨h1, h2, h3, h4, h5⟩ := h.later hb
 exact ⟨h1, by simpa [upd] using h2, by simpa [upd] using h3, fun _ => ⟨a, n, c, by simp [upd]⟩, by simpa [upd] using h5⟩
theorem UG.n5 (h : UG nul W f g w) (h4 : f 4 = true) : UG nul W (upd f 5 true) (upd g 5 (g 4)) w := by
 obtain ⟨h1, h2, h3, h4', h5⟩ := h
 exact ⟨h1, by simpa [upd] using h2, by simpa [upd] using h3, by simpa [upd] using h4', fun _ => by simpa [upd] using h4' h4⟩
theorem UG.other (h : UG nul W f g w) (j : Nat) (hj : j ≠ 0 ∧ j ≠ 3 ∧ j ≠ 4 ∧ j ≠ 5) (v : Value) : UG nul W (upd f j true) (upd g j v) w :=
 h.same (fun i hi => ⟨(upd_ne f true (by omega)).symm, (upd_ne g v (by omega)).symm⟩)
end
theorem awake_any (W : World) : Calls Try.prog 7 #[] W fun e w' => e = .returned (.bool true) ∧ Below W.heap.size W w' := by
 have hmx : Try.prog.follows .mixedOrders = true := by kernel_rfl
 have O1 := hid of_1
 have O2 := hid of_2
 go_enter Try.func7, Try.ntmps7
 go_wp2_with fail
 refine (O1.out _).mono ?_
 rintro _ w1 ⟨rfl, q1⟩
 have QQ := hid q1
 clear q1
 go_wp2_with fail
 refine (O2.out _).mono ?_
 rintro _ w2 ⟨rfl, q2⟩
 replace QQ := hid (QQ.out.trans (q2.mono QQ.out.size))
 clear q2
 have q3 := newA w2 (.cells #[.int .u64 1, .int .u64 0, .int .u64 0, .int .u64 0, .int .u64 2, .int .u64 0, .int .u64 0, .int .u64 0] 25)
 have B3 := hid (made_of w2 [1, 2] [.int .u64 1, .int .u64 0, .int .u64 0, .int .u64 0, .int .u64 2, .int .u64 0, .int .u64 0, .int .u64 0] rfl (small_w (by decide)) (by decide))
 replace QQ := hid (QQ.out.trans (q3.mono QQ.out.size))
 clear q3
 go_wp2_with fail
 refine (push_any _ _ _ [] [1, 2] (WdsAt.nil _) B3.out (by decide) (by decide)).mono ?_
 rintro _ w4 ⟨v, rfl, h, q⟩
 replace B3 := hid (B3.out.later q)
 replace QQ := hid (QQ.out.trans (q.mono QQ.out.size))
 clear q
 rw [show pushE [] [1, 2] = 0 by decide]
 replace h := (show WdsAt _ _ [1, 2] from h)
 obtain ⟨s0, cs, rfl, _, _⟩ := h.shape
 have HS := hid h
 clear h
 simp only [List.length_cons, List.length_nil, Nat.zero_add, Nat.reduceAdd] at HS ⊢
 go_wp2_with fail
 refine (dup_any _ _ [1, 2] 2 HS.out (by decide)).mono ?_
 rintro _ w5 ⟨v, rfl, h, q⟩
 replace B3 := hid (B3.out.later q)
 replace HS := hid (HS.out.later q)
 replace QQ := hid (QQ.out.trans (q.mono QQ.out.size))
 clear q
 rw [show dupE [1, 2] 2 = 0 by decide]
 replace h := (show WdsAt _ _ [1, 2, 1] from h)
 obtain ⟨t0, ct, rfl, _, _⟩ := h.shape
 have HT := hid h
 clear h
 simp only [List.length_cons, List.length_nil, Nat.zero_add, Nat.reduceAdd] at HT ⊢
 go_wp2_with fail
 refine (swap_any _ _ [1, 2, 1] 1 HT.out (by decide)).mono ?_
 rintro _ w6 ⟨v, rfl, h, q⟩
 replace B3 := hid (B3.out.later q)
 replace HS := hid (HS.out.later q)
 replace HT := hid (HT.out.later q)
 replace QQ := hid (QQ.out.trans (q.mono QQ.out.size))
 clear q
 rw [show askN [1, 2, 1].length 1 1 1 = 0 by decide]
 replace h := (show WdsAt _ _ [1, 1, 2] from h)
 obtain ⟨au, cu, rfl, _, _⟩ := h.shape
 have HU := hid h
 clear h
 simp only [List.length_cons, List.length_nil, Nat.zero_add, Nat.reduceAdd] at HU ⊢
 go_wp2_with fail
 refine (pop_any _ _ [1, 1, 2] 2 HU.out (by decide)).mono ?_
 rintro _ w7 ⟨v, l, rfl, h, h2, q⟩
 replace B3 := hid (B3.out.later q)
 replace HS := hid (HS.out.later q)
 replace HT := hid (HT.out.later q)
 replace HU := hid (HU.out.later q)
 replace QQ := hid (QQ.out.trans (q.mono QQ.out.size))
 clear q
 rw [show askN [1, 1, 2].length 2 0 0 = 0 by decide]
 replace h := (show WdsAt _ _ [1] from h)
 replace h2 := (show WdsAt _ _ [2, 1] from h2)
 obtain ⟨av, cv, rfl, _, _⟩ := h.shape
 obtain ⟨al, cl, rfl, _, _⟩ := h2.shape
 have HV := hid h
 clear h
 have HL := hid h2
 clear h2
 simp only [List.length_cons, List.length_nil, Nat.zero_add, Nat.reduceAdd] at HV HL ⊢
 go_wp2_with fail
 refine (pop_any _ _ [] 1 (WdsAt.nil _) (by decide)).mono ?_
 rintro _ w8 ⟨v, l, rfl, h, h2, q⟩
 replace B3 := hid (B3.out.later q)
 replace HS := hid (HS.out.later q)
 replace HT := hid (HT.out.later q)
 replace HU := hid (HU.out.later q)
 replace HV := hid (HV.out.later q)
 replace HL := hid (HL.out.later q)
 replace QQ := hid (QQ.out.trans (q.mono QQ.out.size))
 clear q
 rw [show askN ([] : List Nat).length 1 0 0 = 40 by decide]
 clear h h2
 clear B3
 go_wp2_with fail
 refine wp_region_ghost (c := [none, some (.func (.func 19) #[] #[]), some (.agg #[.int .u64 1, .int .u64 0, .int .u64 0, .int .u64 0]), none, none, none, none, some (.int .i64 41), none, some (.int .i64 41)]) (deps := [[], [], [1], [2], [0, 2, 3], [4], [5], [5], [0, 1, 2, 3, 4, 5, 6], [0, 1, 2, 3, 4, 5, 6, 7, 8]]) (U := UG (List.replicate 1024 0) w8) hmx (by kernel_rfl) (by kernel_rfl) (fun f g w w' h hb => h.later hb) (fun f f' g g' w hh h => h.same (fun j hj => hh j (by rcases hj with rfl | rfl | rfl | rfl <;> rfl))) ⟨(Below.refl _ _).drew, by simp, by simp, by simp, by simp⟩ ?_
 rintro f g y hU0 Dn
 have hU := hid hU0
 clear hU0
 refine GW.open rfl (fun hd hf => ?_) ?_
 ·obtain ⟨cs, hmk, hn⟩ := run_mk1024 y
  have K := hid (hU.out.n0 ((Below.refl y.heap.size y).alloc (Nat.le_refl _) _) hn)
  clear hn
  go_wp2
  exact ⟨rfl, K.out⟩
 simp only [Act.put, sT, sS, sZ]
 refine GW.known _ rfl (fun hd hf => ?_) ?_
 ·go_wp2
  exact ⟨rfl, rfl, Below.refl _ _⟩
 simp only [Act.put, sT, sS, sZ]
 refine GW.known _ rfl (fun hd hf => ?_) ?_
 ·go_wp2_with fail
  refine (O1.out _).mono ?_
  rintro e u ⟨rfl, hb⟩
  go_wp2
  exact ⟨rfl, rfl, hb⟩
 simp only [Act.put, sT, sS, sZ]
 refine GW.open rfl (fun hd hf => ?_) ?_
 ·have K := hid (hU.out.n3 ((Below.refl y.heap.size y).alloc (Nat.le_refl _) _) (made_of y [1] [.int .u64 1, .int .u64 0, .int .u64 0, .int .u64 0] rfl (small_w (by decide)) (by decide)))
  go_wp2
  exact ⟨rfl, K.out⟩
 simp only [Act.put, sT, sS, sZ]
 refine GW.open rfl (fun hd hf => ?_) ?_
 ·obtain ⟨b0, e0, k0⟩ := hU.out.2.1 (hd 0 (by decide))
  obtain ⟨b3, e3, k3⟩ := hU.out.2.2.1 (hd 3 (by decide))
  rw [e0, e3]
  go_wp2_with fail
  refine (push_any _ _ _ _ _ k0 k3 (by rw [List.length_replicate]; decide) (by decide)).mono ?_
  rintro e u ⟨v, rfl, hv, hb⟩
  obtain ⟨a, c, rfl, _, _⟩ := hv.shape
  rw [show pushE (List.replicate 1024 0) [1] = 41 by unfold pushE; rw [List.length_replicate]; decide]
  have K := hid (hU.out.n4 hb a (pushL (List.replicate 1024 0) [1]).length c)
  clear hv
  go_wp2
  exact ⟨rfl, K.out⟩
 simp only [Act.put, sT, sS, sZ]
 refine GW.open rfl (fun hd hf => ?_) ?_
 ·have K := hid (hU.out.n5 (hd 4 (by decide)))
  go_wp2
  exact ⟨rfl, K.out⟩
 simp only [Act.put, sT, sS, sZ]
 refine GW.open rfl (fun hd hf => ?_) ?_
 ·obtain ⟨a, n, c, e5⟩ := hU.out.2.2.2.2 (hd 5 (by decide))
  rw [e5]
  have K := hid (hU.out.other 6 (by decide) (.slice a n c))
  go_wp2
  exact ⟨rfl, K.out⟩
 simp only [Act.put, sT, sS, sZ]
 refine GW.known _ rfl (fun hd hf => ?_) ?_
 ·obtain ⟨a, n, c, e5⟩ := hU.out.2.2.2.2 (hd 5 (by decide))
  rw [e5]
  go_wp2
  exact ⟨rfl, rfl, Below.refl _ _⟩
 simp only [Act.put, sT, sS, sZ]
 refine GW.open rfl (fun hd hf => ?_) ?_
 ·have K := hid (hU.out.other 8 (by decide) (g 6))
  go_wp2
  exact ⟨rfl, K.out⟩
 simp only [Act.put, sT, sS, sZ]
 refine GW.known _ rfl (fun hd hf => ?_) ?_
 ·go_wp2
  exact ⟨rfl, rfl, Below.refl _ _⟩
 simp only [Act.put, sT, sS, sZ]
 refine GW.nil (fun hall => ?_)
 have qy := hU.out.1
 clear hU Dn hall
 replace HS := hid (HS.out.later qy)
 replace HT := hid (HT.out.later qy)
 replace HU := hid (HU.out.later qy)
 replace HV := hid (HV.out.later qy)
 replace HL := hid (HL.out.later qy)
 replace QQ := hid (QQ.out.trans (qy.mono QQ.out.size))
 clear qy
 generalize g 0 = g0 at *
 generalize g 3 = g3 at *
 generalize g 4 = g4 at *
 generalize g 5 = g5 at *
 generalize g 6 = g6 at *
 generalize g 8 = g8 at *
 go_wp2_with fail
 refine (O1.out _).mono ?_
 rintro _ w9 ⟨rfl, q9⟩
 replace HS := hid (HS.out.later q9)
 replace HT := hid (HT.out.later q9)
 replace HU := hid (HU.out.later q9)
 replace HV := hid (HV.out.later q9)
 replace HL := hid (HL.out.later q9)
 replace QQ := hid (QQ.out.trans (q9.mono QQ.out.size))
 clear q9
 go_wp2_with fail
 refine (O2.out _).mono ?_
 rintro _ w10 ⟨rfl, q10⟩
 replace HS := hid (HS.out.later q10)
 replace HT := hid (HT.out.later q10)
 replace HU := hid (HU.out.later q10)
 replace HV := hid (HV.out.later q10)
 replace HL := hid (HL.out.later q10)
 replace QQ := hid (QQ.out.trans (q10.mono QQ.out.size))
 clear q10
 go_wp2_with fail
 refine (O1.out _).mono ?_
 rintro _ w11 ⟨rfl, q11⟩
 replace HS := hid (HS.out.later q11)
 replace HT := hid (HT.out.later q11)
 replace HU := hid (HU.out.later q11)
 replace HV := hid (HV.out.later q11)
 replace HL := hid (HL.out.later q11)
 replace QQ := hid (QQ.out.trans (q11.mono QQ.out.size))
 clear q11
 have q12 := newA w11 (.cells #[.int .u64 1, .int .u64 0, .int .u64 0, .int .u64 0, .int .u64 2, .int .u64 0, .int .u64 0, .int .u64 0, .int .u64 1, .int .u64 0, .int .u64 0, .int .u64 0] 25)
 have B12 := hid (made_of w11 [1, 2, 1] [.int .u64 1, .int .u64 0, .int .u64 0, .int .u64 0, .int .u64 2, .int .u64 0, .int .u64 0, .int .u64 0, .int .u64 1, .int .u64 0, .int .u64 0, .int .u64 0] rfl (small_w (by decide)) (by decide))
 replace HS := hid (HS.out.later q12)
 replace HT := hid (HT.out.later q12)
 replace HU := hid (HU.out.later q12)
 replace HV := hid (HV.out.later q12)
 replace HL := hid (HL.out.later q12)
 replace QQ := hid (QQ.out.trans (q12.mono QQ.out.size))
 clear q12
 go_wp2_with fail
 refine (same_words _ _ _ [1, 2, 1] [1, 2, 1] HT.out B12.out).mono ?_
 rintro _ w13 ⟨rfl, q⟩
 replace HS := hid (HS.out.later q)
 replace HT := hid (HT.out.later q)
 replace HU := hid (HU.out.later q)
 replace HV := hid (HV.out.later q)
 replace HL := hid (HL.out.later q)
 replace B12 := hid (B12.out.later q)
 replace QQ := hid (QQ.out.trans (q.mono QQ.out.size))
 clear q
 rw [show decide (([1, 2, 1] : List Nat) = [1, 2, 1]) = true by decide]
 go_wp2_with fail
 refine (O1.out _).mono ?_
 rintro _ w14 ⟨rfl, q14⟩
 replace HS := hid (HS.out.later q14)
 replace HT := hid (HT.out.later q14)
 replace HU := hid (HU.out.later q14)
 replace HV := hid (HV.out.later q14)
 replace HL := hid (HL.out.later q14)
 replace B12 := hid (B12.out.later q14)
 replace QQ := hid (QQ.out.trans (q14.mono QQ.out.size))
 clear q14
 go_wp2_with fail
 refine (O1.out _).mono ?_
 rintro _ w15 ⟨rfl, q15⟩
 replace HS := hid (HS.out.later q15)
 replace HT := hid (HT.out.later q15)
 replace HU := hid (HU.out.later q15)
 replace HV := hid (HV.out.later q15)
 replace HL := hid (HL.out.later q15)
 replace B12 := hid (B12.out.later q15)
 replace QQ := hid (QQ.out.trans (q15.mono QQ.out.size))
 clear q15
 go_wp2_with fail
 refine (O2.out _).mono ?_
 rintro _ w16 ⟨rfl, q16⟩
 replace HS := hid (HS.out.later q16)
 replace HT := hid (HT.out.later q16)
 replace HU := hid (HU.out.later q16)
 replace HV := hid (HV.out.later q16)
 replace HL := hid (HL.out.later q16)
 replace B12 := hid (B12.out.later q16)
 replace QQ := hid (QQ.out.trans (q16.mono QQ.out.size))
 clear q16
 have q17 := newA w16 (.cells #[.int .u64 1, .int .u64 0, .int .u64 0, .int .u64 0, .int .u64 1, .int .u64 0, .int .u64 0, .int .u64 0, .int .u64 2, .int .u64 0, .int .u64 0, .int .u64 0] 25)
 have B17 := hid (made_of w16 [1, 1, 2] [.int .u64 1, .int .u64 0, .int .u64 0, .int .u64 0, .int .u64 1, .int .u64 0, .int .u64 0, .int .u64 0, .int .u64 2, .int .u64 0, .int .u64 0, .int .u64 0] rfl (small_w (by decide)) (by decide))
 replace HS := hid (HS.out.later q17)
 replace HT := hid (HT.out.later q17)
 replace HU := hid (HU.out.later q17)
 replace HV := hid (HV.out.later q17)
 replace HL := hid (HL.out.later q17)
 replace B12 := hid (B12.out.later q17)
 replace QQ := hid (QQ.out.trans (q17.mono QQ.out.size))
 clear q17
 go_wp2_with fail
 refine (same_words _ _ _ [1, 1, 2] [1, 1, 2] HU.out B17.out).mono ?_
 rintro _ w18 ⟨rfl, q⟩
 replace HS := hid (HS.out.later q)
 replace HT := hid (HT.out.later q)
 replace HU := hid (HU.out.later q)
 replace HV := hid (HV.out.later q)
 replace HL := hid (HL.out.later q)
 replace B12 := hid (B12.out.later q)
 replace B17 := hid (B17.out.later q)
 replace QQ := hid (QQ.out.trans (q.mono QQ.out.size))
 clear q
 rw [show decide (([1, 1, 2] : List Nat) = [1, 1, 2]) = true by decide]
 go_wp2_with fail
 refine (O1.out _).mono ?_
 rintro _ w19 ⟨rfl, q19⟩
 replace HS := hid (HS.out.later q19)
 replace HT := hid (HT.out.later q19)
 replace HU := hid (HU.out.later q19)
 replace HV := hid (HV.out.later q19)
 replace HL := hid (HL.out.later q19)
 replace B12 := hid (B12.out.later q19)
 replace B17 := hid (B17.out.later q19)
 replace QQ := hid (QQ.out.trans (q19.mono QQ.out.size))
 clear q19
 have q20 := newA w19 (.cells #[.int .u64 1, .int .u64 0, .int .u64 0, .int .u64 0] 25)
 have B20 := hid (made_of w19 [1] [.int .u64 1, .int .u64 0, .int .u64 0, .int .u64 0] rfl (small_w (by decide)) (by decide))
 replace HS := hid (HS.out.later q20)
 replace HT := hid (HT.out.later q20)
 replace HU := hid (HU.out.later q20)
 replace HV := hid (HV.out.later q20)
 replace HL := hid (HL.out.later q20)
 replace B12 := hid (B12.out.later q20)
 replace B17 := hid (B17.out.later q20)
 replace QQ := hid (QQ.out.trans (q20.mono QQ.out.size))
 clear q20
 go_wp2_with fail
 refine (same_words _ _ _ [1] [1] HV.out B20.out).mono ?_
 rintro _ w21 ⟨rfl, q⟩
 replace HS := hid (HS.out.later q)
 replace HT := hid (HT.out.later q)
 replace HU := hid (HU.out.later q)
 replace HV := hid (HV.out.later q)
 replace HL := hid (HL.out.later q)
 replace B12 := hid (B12.out.later q)
 replace B17 := hid (B17.out.later q)
 replace B20 := hid (B20.out.later q)
 replace QQ := hid (QQ.out.trans (q.mono QQ.out.size))
 clear q
 rw [show decide (([1] : List Nat) = [1]) = true by decide]
 go_wp2_with fail
 refine (O2.out _).mono ?_
 rintro _ w22 ⟨rfl, q22⟩
 replace HS := hid (HS.out.later q22)
 replace HT := hid (HT.out.later q22)
 replace HU := hid (HU.out.later q22)
 replace HV := hid (HV.out.later q22)
 replace HL := hid (HL.out.later q22)
 replace B12 := hid (B12.out.later q22)
 replace B17 := hid (B17.out.later q22)
 replace B20 := hid (B20.out.later q22)
 replace QQ := hid (QQ.out.trans (q22.mono QQ.out.size))
 clear q22
 go_wp2_with fail
 refine (O1.out _).mono ?_
 rintro _ w23 ⟨rfl, q23⟩
 replace HS := hid (HS.out.later q23)
 replace HT := hid (HT.out.later q23)
 replace HU := hid (HU.out.later q23)
 replace HV := hid (HV.out.later q23)
 replace HL := hid (HL.out.later q23)
 replace B12 := hid (B12.out.later q23)
 replace B17 := hid (B17.out.later q23)
 replace B20 := hid (B20.out.later q23)
 replace QQ := hid (QQ.out.trans (q23.mono QQ.out.size))
 clear q23
 have q24 := newA w23 (.cells #[.int .u64 2, .int .u64 0, .int .u64 0, .int .u64 0, .int .u64 1, .int .u64 0, .int .u64 0, .int .u64 0] 25)
 have B24 := hid (made_of w23 [2, 1] [.int .u64 2, .int .u64 0, .int .u64 0, .int .u64 0, .int .u64 1, .int .u64 0, .int .u64 0, .int .u64 0] rfl (small_w (by decide)) (by decide))
 replace HS := hid (HS.out.later q24)
 replace HT := hid (HT.out.later q24)
 replace HU := hid (HU.out.later q24)
 replace HV := hid (HV.out.later q24)
 replace HL := hid (HL.out.later q24)
 replace B12 := hid (B12.out.later q24)
 replace B17 := hid (B17.out.later q24)
 replace B20 := hid (B20.out.later q24)
 replace QQ := hid (QQ.out.trans (q24.mono QQ.out.size))
 clear q24
 go_wp2_with fail
 refine (same_words _ _ _ [2, 1] [2, 1] HL.out B24.out).mono ?_
 rintro _ w25 ⟨rfl, q⟩
 replace HS := hid (HS.out.later q)
 replace HT := hid (HT.out.later q)
 replace HU := hid (HU.out.later q)
 replace HV := hid (HV.out.later q)
 replace HL := hid (HL.out.later q)
 replace B12 := hid (B12.out.later q)
 replace B17 := hid (B17.out.later q)
 replace B20 := hid (B20.out.later q)
 replace B24 := hid (B24.out.later q)
 replace QQ := hid (QQ.out.trans (q.mono QQ.out.size))
 clear q
 rw [show decide (([2, 1] : List Nat) = [2, 1]) = true by decide]
 go_wp2_with fail
 go_ret
 exact ⟨rfl, QQ.out⟩
end
end Go.Proofs.Ythfghmodfpddpaa
